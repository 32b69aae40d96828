/-
  What the package's successors and step hand back.
-/
import Derived.Test.YtkjjehnfibfngaaRewPrI
import Derived.Maps.OwnIn
namespace Go.Proofs.Ytkjjehnfibfngaa
open Go.RowKit Go.Shelf
open WM RM
set_option linter.unusedVariables false
set_option linter.unusedSimpArgs false
attribute [local go_sem] Oper.semAt_some

theorem successors_any (v1 v2 : Value) (w : World) (p1 : Option Addr) (n1 c1 : Nat) (p2 : Option Addr) (n2 c2 : Nat) (h1 : v1 = .slice p1 n1 c1) (h2 : v2 = .slice p2 n2 c2) :
    Calls Try.prog 47 #[v1, v2] w fun e w' => e = .returned (.func (.func 50) #[] #[.pointer (some ⟨w.heap.size + 1, 0, none⟩), .pointer (some ⟨w.heap.size, 0, none⟩)]) ∧ w' = (w.alloc (.cells #[v1] 22)).alloc (.cells #[v2] 39) := by
  subst h1 h2
  go_enter Try.func47, Try.ntmps47
  go_wp2_with fail
  go_ret
  exact ⟨by simp, rfl⟩
/-! ### What a word in memory keeps -/
theorem own_turn {W W' : World} {row : Option Nat} {base n size : Nat} {e : TypeId} {v : Value} {xs : List Value} (h : W.ownsRow base e size v n xs) (hg : W.grownBy W' row) (hr : ∀ j, row = some j → ∃ o : Obj, W.heap[j]? = some o ∧ o.isCells = false) : W'.ownsRow base e size v n xs := by
  refine h.kept hg ?_
  rcases h.2 with ⟨rfl, _⟩ | ⟨g, cap, cur, rfl, _, hgb, _⟩
  · exact .inl rfl
  · refine .inr fun e' => ?_
    obtain ⟨o, ho, hc⟩ := hr g (by simpa [Value.ownBlock] using e'.symm)
    rw [hgb] at ho; cases ho; cases hc
theorem mod_turn {W W' : World} {row : Option Nat} {base : Nat} {v : Value} {l : List Md} {vs : List Value} (h : ModFr W base v l vs) (hg : W.grownBy W' row) (hr : ∀ j, row = some j → ∃ o : Obj, W.heap[j]? = some o ∧ o.isCells = false) : ModFr W' base v l vs :=
  ⟨h.len, own_turn h.row hg hr, fun k hk hk2 => ⟨own_turn (h.args k hk hk2).own hg hr, (h.args k hk hk2).apart⟩⟩
theorem typ_apart {w : World} {b1 b2 n1 n2 s1 s2 : Nat} {e1 e2 : TypeId} {v1 v2 : Value} {x1 x2 : List Value} (h1 : w.ownsRow b1 e1 s1 v1 n1 x1) (h2 : w.ownsRow b2 e2 s2 v2 n2 x2) (ne : e1 ≠ e2) : v1 = .slice none 0 0 ∨ v1.ownBlock ≠ v2.ownBlock := by
  rcases h1.2 with ⟨rfl, _⟩ | ⟨g, cap, cur, rfl, _, hg, _⟩
  · exact .inl rfl
  · right
    rcases h2.2 with ⟨rfl, _⟩ | ⟨g2, cap2, cur2, rfl, _, hg2, _⟩
    · simp [Value.ownBlock]
    · intro e
      obtain rfl : g = g2 := by simpa [Value.ownBlock] using e
      rw [hg] at hg2
      cases hg2; exact ne rfl
theorem int_ne_mod : 3 ≠ 27 := by decide
theorem mods_ne_mod : 39 ≠ 27 := by decide
theorem mods_ne_int : 39 ≠ 3 := by decide
theorem err_ne_int : 29 ≠ 3 := by decide
theorem err_ne_mod : 29 ≠ 27 := by decide
/-- A word made longer by one module, whose args lie anywhere. -/
theorem mod_push {base : Nat} {X1 X4 : World} {l : List Md} {m : Md} {v v' v2 : Value} {vs : List Value} (h : ModFr X1 base v l vs) (ha : X1.ownsRow base 3 1 v' m.a.length (valsL m.a))
    (o4 : X4.ownsRow base 27 2 v2 (l.length + 1) (modC l vs ++ [.int .u8 m.c.toNat, v'])) (g4 : X1.grownBy X4 v.ownBlock) : ModFr X4 base v2 (l ++ [m]) (vs ++ [v']) := by
  have keep : ∀ {u : Value} {a : List Int}, X1.ownsRow base 3 1 u a.length (valsL a) → ArgFr X4 base v2.ownBlock u a := fun {u a} hu => by
    have hk := hu.kept g4 (by rcases typ_apart hu h.row int_ne_mod with e | e; · left; rw [e]; rfl
                              · exact .inr e)
    exact ⟨hk, typ_apart hk o4 int_ne_mod⟩
  refine ⟨by rw [List.length_append, List.length_append, h.len]; rfl, by rw [List.length_append, modC_snoc _ _ _ _ h.len.symm]; exact o4, ?_⟩
  intro k hk hk2
  rw [List.length_append, List.length_singleton] at hk
  rcases Nat.lt_or_eq_of_le (Nat.le_of_lt_succ hk) with hlt | heq
  · have hk3 : k < vs.length := by rw [h.len]; exact hlt
    rw [List.getElem_append_left hlt, List.getElem_append_left hk3]
    exact keep (h.args k hlt hk3).own
  · subst heq
    have a1 : (vs ++ [v'])[l.length]'hk2 = v' := by rw [List.getElem_append_right (by rw [h.len]; exact Nat.le_refl _)]; simp
    have a2 : (l ++ [m])[l.length]'(by simp) = m := by simp
    rw [a1, a2]
    exact keep ha
theorem own_box {w : World} {B base n size : Nat} {t e : TypeId} {u v : Value} {xs : List Value} (h : w.ownsRow base e size v n xs) (hb : Boxed w B t u) (hte : t ≠ e) (u' : Value) : (w.setCell ⟨B, 0, none⟩ u').ownsRow base e size v n xs :=
  h.kept (grownBy_setCell' w B u') (.inr (hb.not_row hte h).symm)
theorem mod_box {w : World} {B base : Nat} {u v : Value} {l : List Md} {vs : List Value} (h : ModFr w base v l vs) (hb : Boxed w B 39 u) (u' : Value) : ModFr (w.setCell ⟨B, 0, none⟩ u') base v l vs :=
  ⟨h.len, own_box h.row hb mods_ne_mod u', fun k hk hk2 => ⟨own_box (h.args k hk hk2).own hb mods_ne_int u', (h.args k hk hk2).apart⟩⟩
theorem own_raise {w : World} {b N n size : Nat} {e : TypeId} {v : Value} {xs : List Value} (h : w.ownsRow b e size v n xs) (hg : ∀ g, v.ownBlock = some g → N ≤ g) : w.ownsRow N e size v n xs := by
  refine ⟨h.1, ?_⟩
  rcases h.2 with h | ⟨g, cap, cur, rfl, _, r⟩
  · exact .inl h
  · exact .inr ⟨g, cap, cur, rfl, hg g rfl, r⟩
/-- What step holds between two rounds. -/
structure StI (w : World) (b0 : Nat) (r : Option Nat) (pre : List Yx) (W : World) : Prop where
  own : ∃ v d vs, Boxed W (w.heap.size + 1 + 1) 39 v ∧ v.ownBlock = r ∧ pre.map Yx.o = d.map some ∧ ModFr W b0 v d vs ∧ (∀ g, r = some g → w.heap.size ≤ g)
  r1 : Boxed W w.heap.size 39 (.slice none 0 0)
  r2 : Boxed W (w.heap.size + 1) 29 (.int .i64 0)
  below : Below w.heap.size w W
structure StX (w : World) (pre : List Yx) (W : World) : Prop where
  bad : none ∈ pre.map Yx.o
  r1 : Boxed W w.heap.size 39 (.slice none 0 0)
  r2 : Boxed W (w.heap.size + 1) 29 (.int .i64 16)
  below : Below w.heap.size w W
theorem box_turn {W W' : World} {row : Option Nat} {B : Nat} {t : TypeId} {v : Value} (h : Boxed W B t v) (hg : W.grownBy W' row) (hr : ∀ j, row = some j → ∃ o : Obj, W.heap[j]? = some o ∧ o.isCells = false) : Boxed W' B t v :=
  h.kept hg fun e => by
    obtain ⟨o, ho, hc⟩ := hr B e.symm
    rw [show W.heap[B]? = _ from h] at ho; cases ho; cases hc
theorem stI_own (w : World) (b0 N : Nat) (hN : w.heap.size ≤ N) : OwnFrom N (fun (s : Option Nat × List Yx) => StI w b0 s.1 s.2) := by
  rintro ⟨r, pre⟩ W W' row ⟨⟨v, d, vs, h1, h2, h3, h4, h5⟩, h6, h7, h8⟩ hg hr
  have hr2 : ∀ j, row = some j → ∃ o : Obj, W.heap[j]? = some o ∧ o.isCells = false := fun j e => (hr j e).2
  exact ⟨⟨v, d, vs, box_turn h1 hg hr2, h2, h3, mod_turn h4 hg hr2, h5⟩, box_turn h6 hg hr2, box_turn h7 hg hr2, h8.grown hg h8.size (fun j e => Nat.le_trans hN (hr j e).1)⟩
theorem stX_own (w : World) (N : Nat) (hN : w.heap.size ≤ N) : OwnFrom N (StX w) := by
  rintro pre W W' row ⟨h1, h6, h7, h8⟩ hg hr
  have hr2 : ∀ j, row = some j → ∃ o : Obj, W.heap[j]? = some o ∧ o.isCells = false := fun j e => (hr j e).2
  exact ⟨h1, box_turn h6 hg hr2, box_turn h7 hg hr2, h8.grown hg h8.size (fun j e => Nat.le_trans hN (hr j e).1)⟩
theorem at_own (b0 N : Nat) : OwnFrom N (fun (x : Yx) W => x.at b0 W) := by
  rintro x W W' row h hg hr
  have hr2 : ∀ j, row = some j → ∃ o : Obj, W.heap[j]? = some o ∧ o.isCells = false := fun j e => (hr j e).2
  unfold Yx.at at h ⊢
  split
  · rename_i m hm
    rw [hm] at h
    exact own_turn h hg hr2
  · rename_i hm
    rw [hm] at h
    exact h
theorem stI_row {w : World} {b0 : Nat} {r : Option Nat} {pre : List Yx} {W : World} (h : StI w b0 r pre W) : ∀ g, r = some g → g < W.heap.size := by
  obtain ⟨v, d, vs, _, h2, _, h4, _⟩ := h.own
  intro g e
  exact (owns_lt h4.row g (h2.trans e)).2
/-- step's error and word. -/
def spC (l : List Rw) (u : List Md) : Int := match stepL l u with | none => 16 | some d => if 2000 < d.length then 4 else 0
def spL (l : List Rw) (u : List Md) : List Md := match stepL l u with | none => [] | some d => if 2000 < d.length then [] else d
def SpEnd (l : List Rw) (u : List Md) (b0 : Nat) (w : World) (e : Ending) (w' : World) : Prop := ∃ v vs, e = .returned (.tuple #[v, .int .i64 (spC l u)]) ∧ Below w.heap.size w w' ∧ ModFr w' b0 v (spL l u) vs
set_option maxRecDepth 100000 in
set_option maxHeartbeats 6400000 in
theorem pstep_any (p : Option Addr) (cap : Nat) (l : List Rw) (hl : l.length ≤ 9223372036854775807) (hs : ∀ r ∈ l, RwSm r) (hru : ∀ r ∈ l, ruleB r = true) (hro : ∀ r ∈ l, r.out.length ≤ 20)
    (wv : Value) (u : List Md) (us : List Value) (hu : u.length ≤ 2000) (huf : ∀ m ∈ u, fineB m = true) (b0 : Nat) (w : World) (hb0 : b0 ≤ w.heap.size) (h1 : Rws w (.slice p l.length cap) l) (h2 : ModFr w b0 wv u us) :
    Calls Try.prog 35 #[.slice p l.length cap, wv] w (SpEnd l u b0 w) := by
  have HN := Lib.hid (seqO_len hro u)
  have HSeq := Lib.hid (allO_seq l u)
  obtain ⟨pw, cw, rfl⟩ := fr_slice h2.row
  have HIt := Lib.hid (fun (n lp BR BW B : Nat) J Jx BB hJ hJr hY W hW hbr hbw hBR hBl h0 => succ1_in n lp BR BW B b0 w p cap l hl hs hru (.slice pw u.length cw) u us (by omega) huf hb0 h1 h2 J Jx BB hJ hJr hY W hW hbr hbw hBR hBl h0)
  have KS := Lib.hid (fun w => successors_any (.slice p l.length cap) (.slice pw u.length cw) w _ _ _ _ _ _ rfl rfl)
  clear hs hru huf h1 h2 hro
  refine (callsIn_wide (n := 8)).1 ?_
  refine callsIn_of_wp_marks Try.func35 rfl trivial ?_ rfl
  simp only [Try.ntmps35, List.size_toArray, List.length_cons, List.length_nil, Nat.reduceAdd, Nat.reduceSub, Array.replicate_succ, Array.replicate_zero, List.push_toArray, List.append_toArray, List.nil_append, List.cons_append]
  gi_wp2_with fail
  refine ⟨trivial, ?_⟩
  refine (callsIn_wide.2 (KS.out _)).mono ?_
  rintro e ws ⟨rfl, rfl⟩
  gi_wp2_with fail
  obtain ⟨W0, hW0⟩ : ∃ W, W = (((((w.alloc (.cells #[.slice none 0 0] 39)).alloc (.cells #[.int .i64 0] 29)).alloc (.cells #[.slice none 0 0] 39)).alloc (.cells #[.slice p l.length cap] 22)).alloc (.cells #[.slice pw u.length cw] 39)) := ⟨_, rfl⟩
  have hsz : W0.heap.size = w.heap.size + 1 + 1 + 1 + 1 + 1 := by rw [hW0]; simp
  have HB0 : Hid (Below w.heap.size w W0) := Lib.hid (by rw [hW0]; exact (((((Below.refl _ _).alloc (Nat.le_refl _) _).alloc (by simp) _).alloc (by simp; omega) _).alloc (by simp; omega) _).alloc (by simp; omega) _)
  have HR1 : Hid (Boxed W0 w.heap.size 39 (.slice none 0 0)) := Lib.hid (by rw [hW0]; exact ((((Boxed.new w 39 (.slice none 0 0)).alloc _).alloc _).alloc _).alloc _)
  have HR2 : Hid (Boxed W0 (w.heap.size + 1) 29 (.int .i64 0)) := Lib.hid (by
    rw [hW0]
    have := Boxed.new (w.alloc (.cells #[.slice none 0 0] 39)) 29 (.int .i64 0)
    rw [World.size_alloc] at this
    exact ((this.alloc _).alloc _).alloc _)
  have HNx : Hid (Boxed W0 (w.heap.size + 1 + 1) 39 (.slice none 0 0)) := Lib.hid (by
    rw [hW0]
    have := Boxed.new ((w.alloc (.cells #[.slice none 0 0] 39)).alloc (.cells #[.int .i64 0] 29)) 39 (.slice none 0 0)
    rw [World.size_alloc, World.size_alloc] at this
    exact (this.alloc _).alloc _)
  have HBR : Hid (Boxed W0 (w.heap.size + 1 + 1 + 1) 22 (.slice p l.length cap)) := Lib.hid (by
    rw [hW0]
    have := Boxed.new (((w.alloc (.cells #[.slice none 0 0] 39)).alloc (.cells #[.int .i64 0] 29)).alloc (.cells #[.slice none 0 0] 39)) 22 (.slice p l.length cap)
    rw [World.size_alloc, World.size_alloc, World.size_alloc] at this
    exact this.alloc _)
  have HBW : Hid (Boxed W0 (w.heap.size + 1 + 1 + 1 + 1) 39 (.slice pw u.length cw)) := Lib.hid (by
    rw [hW0]
    have := Boxed.new ((((w.alloc (.cells #[.slice none 0 0] 39)).alloc (.cells #[.int .i64 0] 29)).alloc (.cells #[.slice none 0 0] 39)).alloc (.cells #[.slice p l.length cap] 22)) 39 (.slice pw u.length cw)
    rw [World.size_alloc, World.size_alloc, World.size_alloc, World.size_alloc] at this
    exact this)
  have HT : Hid (Tells Fence.wide (8 - 1) Try.prog 50 #[.pointer (some ⟨w.heap.size + 1 + 1 + 1 + 1, 0, none⟩), .pointer (some ⟨w.heap.size + 1 + 1 + 1, 0, none⟩)] yV w.heap.size (w.heap.size + 1 + 1) (fun x W => x.at b0 W) (fun xs => xs.map Yx.o = seqO l u) (fun pre => pre.map Yx.o <+: seqO l u) (seqO l u).length W0) :=
    Lib.hid (fun lp J Jx W hW hJ hJx hJr hY h0 => HIt.out 7 lp (w.heap.size + 1 + 1 + 1) (w.heap.size + 1 + 1 + 1 + 1) (w.heap.size + 1 + 1) J Jx _ hJ hJr hY W (HB0.out.trans (hW.mono HB0.out.size)) ((hW.block _ HBR.out.lt).trans HBR.out) ((hW.cell (p := ⟨w.heap.size + 1 + 1 + 1 + 1, 0, none⟩) HBW.out.lt).trans HBW.out.cell) (by omega) (Nat.lt_of_lt_of_le HNx.out.lt hW.size) h0)
  rw [← hW0]
  clear hW0
  obtain ⟨j0, hj, hy0, hy1, hy2⟩ := info_parts info_mod
  have HM : Hid (maxLen = 9223372036854775807) := Lib.hid rfl
  have HJ := Lib.hid hj
  have HY0 := Lib.hid hy0
  have HY1 := Lib.hid hy1
  have HY2 := Lib.hid hy2
  clear hj hy0 hy1 hy2
  have hwz := HB0.out.size
  refine range_tells rfl (by omega) (gf := 50) (lb := #[.pointer (some ⟨w.heap.size + 1 + 1 + 1 + 1, 0, none⟩), .pointer (some ⟨w.heap.size + 1 + 1 + 1, 0, none⟩)]) rfl trivial (enters_of Try.func50 (by kernel_rfl) rfl) HT.out hwz (Below.refl _ _) (fun _ => rfl)
    (StI w b0) (StX w) (fun r pre W1 h => stI_row h) (stI_own w b0 _ hwz) (stX_own w _ hwz) (at_own b0 _)
    ⟨⟨.slice none 0 0, [], [], HNx.out, rfl, rfl, modFr_nil _ _, fun g e => by cases e⟩, HR1.out, HR2.out, HB0.out⟩
    (fun x => .cells #[.int .u8 x.cn, x.v] 27 (0, 0))
    (fun x mb => { tmps := #[.slice p l.length cap, .slice pw u.length cw, undef, undef, .pointer (some ⟨w.heap.size, 0, none⟩), .pointer (some ⟨w.heap.size + 1, 0, none⟩), .pointer (some ⟨w.heap.size + 1 + 1, 0, none⟩), .pointer (some ⟨mb, 0, none⟩), .int .i64 x.er, .slice p l.length cap, .slice pw u.length cw,
      .func (.func 50) #[] #[.pointer (some ⟨w.heap.size + 1 + 1 + 1 + 1, 0, none⟩), .pointer (some ⟨w.heap.size + 1 + 1 + 1, 0, none⟩)], .agg #[.int .u8 x.cn, x.v], .int .i64 x.er, undef, undef, undef, undef, undef, undef, undef, undef, undef, undef, undef], defers := [] }) ?assign ?body ?done ?stop
  case assign =>
    rintro lp ⟨o, px, nx, cx⟩ W K hK
    dsimp only [yV]
    gi_wp2
    exact hK
  case body =>
    rintro lp r pre ⟨o, px, nx, cx⟩ mb W hI hQ hm hmr hml hlen
    have HI := Lib.hid hI
    have HQ := Lib.hid hQ
    have HMb := Lib.hid hm
    have hge := hI.below.size
    cases o with
    | none =>
      have c1 := hI.r1.cell
      have f1 := hI.r1.frozen
      have l1 := hI.r1.lt
      have c2 := hI.r2.cell
      have f2 := hI.r2.frozen
      have l2 := hI.r2.lt
      clear hI hQ hm
      dsimp only [Yx.er, Yx.cn]
      gi_wp2_with fail
      have h := HI.out
      refine ⟨((KeepsOthers.setCell _ _ _).trans (KeepsOthers.setCell _ _ _)).from _, ⟨by simp, ?_, ?_, ?_⟩⟩
      · exact (h.r1.set _).kept (grownBy_setCell' _ _ _) (by simp <;> omega)
      · exact (h.r2.kept (grownBy_setCell' _ _ _) (by simp)).set _
      · exact (h.below.setCell (p := ⟨w.heap.size, 0, none⟩) (Nat.le_refl _) _).setCell (p := ⟨w.heap.size + 1, 0, none⟩) (Nat.le_succ _) _
    | some m =>
      obtain ⟨vv, d, vs, hbx, hvr, hpre, hmf, hrg⟩ := hI.own
      have hqo : W.ownsRow b0 3 1 (.slice px nx cx) m.a.length (valsL m.a) := hQ
      have HQo := Lib.hid hqo
      have HMF := Lib.hid hmf
      have HBx := Lib.hid hbx
      have HVr := Lib.hid hvr
      have HPre := Lib.hid hpre
      have hrow : W.ownsRow w.heap.size 27 2 vv d.length (modC d vs) := own_raise hmf.row (by rw [hvr]; exact hrg)
      have HRow := Lib.hid hrow
      have hdl : d.length < 40000 := by
        have h1 := congrArg List.length hpre
        rw [List.length_map, List.length_map] at h1
        have := HN.out
        omega
      have hc := hbx.cell
      have hf := hbx.frozen
      have hlx := hbx.lt
      have m0 : W.cell? ⟨mb, 0, none⟩ = some (.int .u8 m.c.toNat) := cell_two0 hm
      have m1 : W.cell? ⟨mb, 1, none⟩ = some (.slice px nx cx) := cell_two1 hm
      have lm := lt_of_block hm
      obtain ⟨pvv, cvv, hvv⟩ := fr_slice hmf.row
      subst hvv
      clear hI hQ hm hqo hmf hbx hvr hpre hrg hrow
      dsimp only [Yx.er, Yx.cn]
      gi_wp2_with (gi_at_builtin; go_loud (refine wpListIn_append_own_at _ rfl _ _ 39 rfl w.heap.size 27 j0 (.agg #[.int .u8 0, .slice none 0 0]) 2 32 Try.underlying39 HJ.out HY0.out HY1.out HY2.out rfl (by decide) (.slice pvv d.length cvv) d.length (modC d vs) rfl (HRow.out.alloc _) ⟨W.heap.size, 0, none⟩ 1 1 [.int .u8 m.c.toNat, .slice px nx cx] rfl rfl (two_new _ _ _ _) (by simp [Value.oneCell']) (by rw [HM.out]; omega) (by omega) (by simp; omega) ?_; intro v' w1 hown' hgrow hnil hat; obtain ⟨g', cap', rfl⟩ := ownsRow_succ hown'; obtain ⟨hv1, hv2, hr2, hk2, hb2⟩ := HBx.out.appended mods_ne_mod HRow.out hge (by omega) hown' hgrow; have hc2 := hv1.cell; have hf2 := hv1.frozen; have hl2 := hv1.lt; have HV1 := Lib.hid hv1; have HV2 := Lib.hid hv2; have HO2 := Lib.hid hown'; have HG2 := Lib.hid hgrow; have HK2 := Lib.hid hk2; have HB2 := Lib.hid hb2; have HAt := Lib.hid hat; clear hv1 hv2 hr2 hk2 hb2 hown' hgrow hnil hat))
      have h := HI.out
      have hg' := owns_lt HO2.out g' rfl
      refine ⟨HK2.out.from _, some g', ⟨HB2.out, ?_, ?_⟩, ⟨⟨_, d ++ [m], vs ++ [.slice px nx cx], HV2.out, rfl, ?_, ?_, ?_⟩, ?_, ?_, h.below.trans HB2.out⟩⟩
      · intro k o hk ho hkb hkr
        exact (Below.heap_setCell _ _ _ k hkb).trans ((HG2.out.block k (by have := lt_of_block hk; simp; omega) (by rw [HVr.out]; exact hkr)).trans (heap_alloc_old hk _))
      · rcases HAt.out with e | e
        · left; rw [← HVr.out]; exact e
        · right; intro g eg
          have e2 : some g' = some (W.heap.size + 1) := by simpa [Value.ownBlock] using e
          have := Option.some.inj (eg.symm.trans e2)
          omega
      · rw [List.map_append, List.map_append, HPre.out]; rfl
      · exact mod_box (mod_push (mod_turn HMF.out (World.grownBy_alloc W _ none) (fun j e => by cases e)) (HQo.out.alloc _) (owns_mono HO2.out hb0) HG2.out) HV1.out _
      · intro g eg
        cases eg; exact hg'.1
      · exact ((h.r1.alloc (.cells #[.int .u8 m.c.toNat, .slice px nx cx] 27)).kept HG2.out ((h.r1.alloc (.cells #[.int .u8 m.c.toNat, .slice px nx cx] 27)).not_row mods_ne_mod (HRow.out.alloc (.cells #[.int .u8 m.c.toNat, .slice px nx cx] 27)))).kept (grownBy_setCell' _ _ _) (by simp; omega)
      · exact ((h.r2.alloc (.cells #[.int .u8 m.c.toNat, .slice px nx cx] 27)).kept HG2.out ((h.r2.alloc (.cells #[.int .u8 m.c.toNat, .slice px nx cx] 27)).not_row err_ne_mod (HRow.out.alloc (.cells #[.int .u8 m.c.toNat, .slice px nx cx] 27)))).kept (grownBy_setCell' _ _ _) (by simp)
  case done =>
    rintro D r xs W hD hS hI hK
    obtain ⟨vv, d, vs, hbx, hvr, hpre, hmf, hrg⟩ := hI.own
    have hst : stepL l u = some d := by rw [← HSeq.out, ← hS, hpre, allO_some]
    obtain ⟨pvv, cvv, hvv⟩ := fr_slice hmf.row
    subst hvv
    have HI := Lib.hid hI
    have HMF := Lib.hid hmf
    have HK := Lib.hid hK
    have hD2 : w.heap.size ≤ D := Nat.le_trans hwz hD
    have hc := hbx.cell
    have c1 := hI.r1.cell
    have f1 := hI.r1.frozen
    have l1 := hI.r1.lt
    have c2 := hI.r2.cell
    have f2 := hI.r2.frozen
    have l2 := hI.r2.lt
    have HFin : Hid (∀ (x1 x2 : Value) (e : Ending), (∀ w', Below w.heap.size w w' → ModFr w' b0 (.slice pvv d.length cvv) d vs → SpEnd l u b0 w e w') → SpEnd l u b0 w e (((W.setCell ⟨w.heap.size, 0, none⟩ x1).setCell ⟨w.heap.size + 1, 0, none⟩ x2).putObj D (.deferred none))) := Lib.hid (fun x1 x2 e h => by
      have hb : Below w.heap.size w ((W.setCell ⟨w.heap.size, 0, none⟩ x1).setCell ⟨w.heap.size + 1, 0, none⟩ x2) := (hI.below.setCell (p := ⟨w.heap.size, 0, none⟩) (Nat.le_refl _) _).setCell (p := ⟨w.heap.size + 1, 0, none⟩) (Nat.le_succ _) _
      have hK' := ((KeepsOthers.setCell W ⟨w.heap.size, 0, none⟩ x1).trans (KeepsOthers.setCell _ ⟨w.heap.size + 1, 0, none⟩ x2)).same D _ hK rfl
      have hm1 := mod_box hmf hI.r1 x1
      have hr2 : Boxed (W.setCell ⟨w.heap.size, 0, none⟩ x1) (w.heap.size + 1) 29 (.int .i64 0) := hI.r2.kept (grownBy_setCell' _ _ _) (by simp)
      have hm2 : ModFr ((W.setCell ⟨w.heap.size, 0, none⟩ x1).setCell ⟨w.heap.size + 1, 0, none⟩ x2) b0 (.slice pvv d.length cvv) d vs :=
        ⟨hm1.len, own_box hm1.row hr2 err_ne_mod x2, fun k hk hk2 => ⟨own_box (hm1.args k hk hk2).own hr2 err_ne_int x2, (hm1.args k hk hk2).apart⟩⟩
      refine h _ (hb.trans (belowK_b (w := w) (Nat.le_refl _) _ D _ _ hD2 hK' rfl rfl)) (mod_turn hm2 (grownBy_putObj' _ D _) (fun j e => by cases e; exact ⟨_, hK', rfl⟩)))
    have HC1 : Hid (∀ x1 x2 : Value, (((W.setCell ⟨w.heap.size, 0, none⟩ x1).setCell ⟨w.heap.size + 1, 0, none⟩ x2).putObj D (.deferred none)).cell? ⟨w.heap.size, 0, none⟩ = some x1 ∧ (((W.setCell ⟨w.heap.size, 0, none⟩ x1).setCell ⟨w.heap.size + 1, 0, none⟩ x2).putObj D (.deferred none)).cell? ⟨w.heap.size + 1, 0, none⟩ = some x2 ∧ ((W.setCell ⟨w.heap.size, 0, none⟩ x1).setCell ⟨w.heap.size + 1, 0, none⟩ x2).heap[D]? = some (.deferred (some []))) := Lib.hid (fun x1 x2 => by
      have hK' := ((KeepsOthers.setCell W ⟨w.heap.size, 0, none⟩ x1).trans (KeepsOthers.setCell _ ⟨w.heap.size + 1, 0, none⟩ x2)).same D _ hK rfl
      have b1 : Boxed ((W.setCell ⟨w.heap.size, 0, none⟩ x1).setCell ⟨w.heap.size + 1, 0, none⟩ x2) w.heap.size 39 x1 := (hI.r1.set x1).kept (grownBy_setCell' _ _ _) (by simp)
      have b2 : Boxed ((W.setCell ⟨w.heap.size, 0, none⟩ x1).setCell ⟨w.heap.size + 1, 0, none⟩ x2) (w.heap.size + 1) 29 x2 := (hI.r2.kept (grownBy_setCell' _ _ _) (by simp)).set x2
      exact ⟨cell_kept b1.cell (grownBy_putObj' _ D (.deferred none)) (fun r e => by cases e; exact ⟨_, hK', rfl⟩), cell_kept b2.cell (grownBy_putObj' _ D (.deferred none)) (fun r e => by cases e; exact ⟨_, hK', rfl⟩), hK'⟩)
    have HD := Lib.hid hD
    clear hI hmf hbx hvr hpre hrg hS hD hK
    by_cases h2k : 2000 < d.length
    · have t1 : (2000 : Int) < (d.length : Int) := by omega
      have HE : Hid (spC l u = 4 ∧ spL l u = []) := Lib.hid (by unfold spC spL; rw [hst]; simp [h2k])
      clear hst
      gi_wp2_with fail
      obtain ⟨e1, e2, e3⟩ := HC1.out (.slice none 0 0) (.int .i64 4)
      refine ⟨by simp, .inl ⟨_, _, rfl, run_takeDeferred e3, ?_⟩⟩
      refine ⟨.tuple #[.slice none 0 0, .int .i64 4], by simp [results, Try.f35, go_sem, e1, e2], HFin.out _ _ _ (fun w' hb hm => ⟨_, [], by rw [HE.out.1], hb, by rw [HE.out.2]; exact modFr_nil _ _⟩)⟩
    · have t1 : ¬ (2000 : Int) < (d.length : Int) := by omega
      have HE : Hid (spC l u = 0 ∧ spL l u = d) := Lib.hid (by unfold spC spL; rw [hst]; simp; omega)
      clear hst
      gi_wp2_with fail
      obtain ⟨e1, e2, e3⟩ := HC1.out (.slice pvv d.length cvv) (.int .i64 0)
      refine ⟨by simp, .inl ⟨_, _, rfl, run_takeDeferred e3, ?_⟩⟩
      refine ⟨.tuple #[.slice pvv d.length cvv, .int .i64 0], by simp [results, Try.f35, go_sem, e1, e2], HFin.out _ _ _ (fun w' hb hm => ⟨_, vs, by rw [HE.out.1], hb, by rw [HE.out.2]; exact hm⟩)⟩
  case stop =>
    rintro D pre W hD hSp hI hK
    have hst : stepL l u = none := by rw [← HSeq.out]; exact allO_none (hSp.subset hI.bad)
    have HE : Hid (spC l u = 16 ∧ spL l u = []) := Lib.hid (by unfold spC spL; rw [hst]; simp)
    have HI := Lib.hid hI
    have HK := Lib.hid hK
    have hD2 : w.heap.size ≤ D := Nat.le_trans hwz hD
    have HD2 := Lib.hid hD2
    clear hI hK hSp hst hD hD2
    gi_wp2_with fail
    refine ⟨by simp, .inl ⟨_, _, rfl, run_takeDeferred HK.out, ?_⟩⟩
    have e1 := cell_kept HI.out.r1.cell (grownBy_putObj' _ D (.deferred none)) (fun r e => by cases e; exact ⟨_, HK.out, rfl⟩)
    have e2 := cell_kept HI.out.r2.cell (grownBy_putObj' _ D (.deferred none)) (fun r e => by cases e; exact ⟨_, HK.out, rfl⟩)
    exact ⟨.tuple #[.slice none 0 0, .int .i64 16], by simp [results, Try.f35, go_sem, e1, e2], _, [], by rw [HE.out.1], HI.out.below.trans (belowK_b (w := w) (Nat.le_refl _) _ D _ _ HD2.out HK.out rfl rfl), by rw [HE.out.2]; exact modFr_nil _ _⟩
end Go.Proofs.Ytkjjehnfibfngaa
