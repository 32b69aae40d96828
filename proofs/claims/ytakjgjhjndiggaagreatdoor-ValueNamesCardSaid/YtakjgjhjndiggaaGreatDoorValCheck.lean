/-
  What Check of package value hands back.
-/
import Derived.Test.YtakjgjhjndiggaaGreatDoorValSnd
import Derived.Shelf.Abstract
namespace Go.Proofs.YtakjgjhjndiggaaGreatDoor
open Go.RowKit Go.Shelf
open VM
set_option linter.unusedVariables false
set_option linter.unusedSimpArgs false
attribute [local go_sem] Oper.semAt_some

theorem boxed_below {W W' : World} {B : Nat} {t : TypeId} {v : Value} (h : Boxed W B t v) (hb : Below W.heap.size W W') : Boxed W' B t v := (hb.block B h.lt).trans h
theorem keeps_below {W W' : World} (h : Below W.heap.size W W') (B : Nat) : KeepsFrom B W W' :=
  ⟨h.size, fun k o _ hk _ => (h.block k (Array.getElem?_eq_some_iff.1 hk).1).trans hk⟩
/-- The fault so far. -/
def fltI (pr : List Part) : Int := if pr.all (fun x => sndB x.v.nd x.v.list.length) = true then 0 else 8
theorem fltI_snoc (pr : List Part) (x : Part) : fltI (pr ++ [x]) = if sndB x.v.nd x.v.list.length = true then fltI pr else 8 := by
  unfold fltI
  cases h : sndB x.v.nd x.v.list.length <;> simp [h]
theorem flt_end {v : V} {ys : List Part} (h : ys.map Part.key = pre 1 v) (h1 : ys.length ≤ 100) (h2 : ∀ q ∈ ys, q.dep ≤ 6) : vchk v = fltI ys := by
  have hl := congrArg List.length h
  rw [List.length_map] at hl
  rw [vchk_all (by omega) (by
    intro q hq
    rw [← h, List.mem_map] at hq
    obtain ⟨x, hx, rfl⟩ := hq
    exact h2 x hx)]
  rw [← h, List.all_map]
  rfl
theorem flt_many {v : V} {ys : List Part} (h : ys.map Part.key <+: pre 1 v) (h1 : 100 < ys.length ∨ ∃ q ∈ ys, 6 < q.dep) : vchk v = 4 := by
  refine vchk_many h ?_
  rcases h1 with h1 | ⟨q, hq, h1⟩
  · left; simpa using h1
  · right; exact ⟨q.key, List.mem_map_of_mem hq, h1⟩
theorem KpC.set {n B : Nat} {A A' : World} {b : Nat} (h : KpC n B A A') (h1 : n ≤ b) (h2 : b < B) (v : Value) : KpC n B A (A'.setCell ⟨b, 0, none⟩ v) :=
  ⟨h.1.setCell (p := ⟨b, 0, none⟩) h1 v, fun k c t f hk ha => heap_set_other (h.2 k c t f hk ha) (by show k ≠ b; omega) v⟩
/-- What the loop's variables hold behind the parts so far. -/
structure ChkAt (w : World) (pr : List Part) (W : World) : Prop where
  len : pr.length ≤ 100
  dep : ∀ q ∈ pr, q.dep ≤ 6
theorem six_own {β : Type} (f : β → Nat × Nd × Value) : Own (fun s W => Six W (f s).1 (f s).2.1 (f s).2.2) := fun s X Y row hs hg hrow => by
  have : X.heap[(f s).1]? = some (.cells #[.int .u8 (f s).2.1.k, .int .i64 (f s).2.1.n, .int .i64 (f s).2.1.d, .bool (f s).2.1.t, .string (f s).2.1.s, (f s).2.2] 28 (0, 0)) := hs
  show Y.heap[(f s).1]? = _
  rw [← this]
  refine hg.block _ (lt_of_block this) (fun e' => ?_)
  obtain ⟨o, ho, hc⟩ := hrow _ e'.symm
  rw [this] at ho; cases ho; cases hc

set_option maxRecDepth 100000 in
set_option maxHeartbeats 4000000 in
theorem vcheck_any (a : Nd) (l : List V) (p : Option Addr) (cap : Nat) (w : World) (hs : Small (.mk a l)) (hr : RepL (· < w.heap.size) w l (.slice p l.length cap)) :
    Calls Tryz.prog 20 #[.agg #[.int .u8 a.k, .int .i64 a.n, .int .i64 a.d, .bool a.t, .string a.s, .slice p l.length cap]] w fun e w' => e = .returned (.int .i64 (vchk (.mk a l))) ∧ Below w.heap.size w w' := by
  refine (callsIn_wide (n := 8)).1 ?_
  refine callsIn_of_wp_marks Tryz.func20 rfl trivial ?_ rfl
  simp only [Tryz.ntmps20, List.size_toArray, List.length_cons, List.length_nil, Nat.reduceAdd, Nat.reduceSub, Array.replicate_succ, Array.replicate_zero, List.push_toArray, List.append_toArray, List.nil_append, List.cons_append]
  have HS := Lib.hid hs
  have HR := Lib.hid hr
  clear hs hr
  gi_wp2_with fail
  refine ⟨trivial, ?_⟩
  refine (callsIn_wide.2 (parts_any a _ _)).mono ?_
  rintro e ws ⟨rfl, rfl⟩
  gi_wp2_with fail
  obtain ⟨W0, hW0⟩ : ∃ W0, W0 = ((((w.alloc (.cells #[.int .u8 a.k, .int .i64 a.n, .int .i64 a.d, .bool a.t, .string a.s, .slice p l.length cap] 28)).alloc (.cells #[.int .i64 0] 34)).alloc (.cells #[.int .i64 0] 34)).alloc (.cells #[.int .i64 0] 3)).alloc (.cells #[.int .u8 a.k, .int .i64 a.n, .int .i64 a.d, .bool a.t, .string a.s, .slice p l.length cap] 28) := ⟨_, rfl⟩
  have hsz : W0.heap.size = w.heap.size + 5 := by rw [hW0]; simp
  have HB0 : Hid (Below w.heap.size w W0) := Lib.hid (by rw [hW0]; exact (((((Below.refl _ _).alloc (Nat.le_refl _) _).alloc (by simp) _).alloc (by simp; omega) _).alloc (by simp; omega) _).alloc (by simp; omega) _)
  have HV1 : Hid (Boxed W0 (w.heap.size + 1) 34 (.int .i64 0)) := Lib.hid (by
    rw [hW0]
    have := Boxed.new (w.alloc (.cells #[.int .u8 a.k, .int .i64 a.n, .int .i64 a.d, .bool a.t, .string a.s, .slice p l.length cap] 28)) 34 (.int .i64 0)
    rw [World.size_alloc] at this
    exact ((this.alloc _).alloc _).alloc _)
  have HV2 : Hid (Boxed W0 (w.heap.size + 1 + 1) 34 (.int .i64 (fltI []))) := Lib.hid (by
    rw [hW0]
    have := Boxed.new ((w.alloc (.cells #[.int .u8 a.k, .int .i64 a.n, .int .i64 a.d, .bool a.t, .string a.s, .slice p l.length cap] 28)).alloc (.cells #[.int .i64 0] 34)) 34 (.int .i64 0)
    rw [World.size_alloc, World.size_alloc] at this
    exact (this.alloc _).alloc _)
  have HV3 : Hid (Boxed W0 (w.heap.size + 1 + 1 + 1) 3 (.int .i64 (([] : List Part).length : Nat))) := Lib.hid (by
    rw [hW0]
    have := Boxed.new (((w.alloc (.cells #[.int .u8 a.k, .int .i64 a.n, .int .i64 a.d, .bool a.t, .string a.s, .slice p l.length cap] 28)).alloc (.cells #[.int .i64 0] 34)).alloc (.cells #[.int .i64 0] 34)) 3 (.int .i64 0)
    rw [World.size_alloc, World.size_alloc, World.size_alloc] at this
    exact this.alloc _)
  have HP0 : Hid (W0.heap[w.heap.size + 1 + 1 + 1 + 1]? = some (.cells #[.int .u8 a.k, .int .i64 a.n, .int .i64 a.d, .bool a.t, .string a.s, .slice p l.length cap] 28 (0, 0))) := Lib.hid (by
    rw [hW0]
    have := heap_alloc_new ((((w.alloc (.cells #[.int .u8 a.k, .int .i64 a.n, .int .i64 a.d, .bool a.t, .string a.s, .slice p l.length cap] 28)).alloc (.cells #[.int .i64 0] 34)).alloc (.cells #[.int .i64 0] 34)).alloc (.cells #[.int .i64 0] 3)) (.cells #[.int .u8 a.k, .int .i64 a.n, .int .i64 a.d, .bool a.t, .string a.s, .slice p l.length cap] 28)
    rw [World.size_alloc, World.size_alloc, World.size_alloc, World.size_alloc] at this
    exact this)
  rw [← hW0]
  clear hW0
  have HSz := Lib.hid hsz
  clear hsz
  have HQ : SeqStopsK Fence.wide 7 Tryz.prog 62 #[.pointer (some ⟨w.heap.size + 1 + 1 + 1 + 1, 0, none⟩)] (fun x : Part => #[.agg #[.int .u8 x.v.nd.k, .int .i64 x.v.nd.n, .int .i64 x.v.nd.d, .bool x.v.nd.t, .string x.v.nd.s, .slice x.p x.v.list.length x.cap], .int .i64 x.dep]) (KpC w.heap.size W0.heap.size) (fun ys => ys.map Part.key = pre 1 (.mk a l)) (fun ys => ys.map Part.key <+: pre 1 (.mk a l)) (parts (.mk a l)) W0 :=
    parts_stops 7 w.heap.size (w.heap.size + 1 + 1 + 1 + 1) a l p cap HS.out W0 HB0.out.size HP0.out (HR.out.kept HB0.out)
  refine wpIn_rangeFunc_ownH rfl (by omega) (gf := 62) (lb := #[.pointer (some ⟨w.heap.size + 1 + 1 + 1 + 1, 0, none⟩)]) rfl trivial (enters_of Tryz.func62 (by kernel_rfl) rfl)
    HQ KpC.trans (KpC.put HB0.out.size) (Below.refl _ _) (fun _ => rfl)
    (fun pr W => (((pr.length ≤ 100 ∧ ∀ q ∈ pr, q.dep ≤ 6) ∧ Boxed W (w.heap.size + 1) 34 (.int .i64 0)) ∧ (Boxed W (w.heap.size + 1 + 1) 34 (.int .i64 (fltI pr)) ∧ Boxed W (w.heap.size + 1 + 1 + 1) 3 (.int .i64 (pr.length : Nat)))) ∧ Below w.heap.size W0 W)
    (fun c pr W => ((c = .ret ∧ (100 < pr.length ∨ ∃ q ∈ pr, 6 < q.dep)) ∧ Boxed W (w.heap.size + 1) 34 (.int .i64 4)) ∧ Below w.heap.size W0 W)
    (OwnFrom.and (OwnFrom.and (OwnFrom.and (ownFrom_pure _ _) (Own.from (boxed_own _ _ _) _)) (OwnFrom.and (Own.from (boxed_own _ _ _) _) (Own.from (boxed_own _ _ _) _))) (ownFrom_below HB0.out.size HB0.out.size))
    (fun c => OwnFrom.and (OwnFrom.and (ownFrom_pure _ _) (Own.from (boxed_own _ _ _) _)) (ownFrom_below HB0.out.size HB0.out.size))
    ⟨⟨⟨⟨by simp, by simp⟩, HV1.out⟩, HV2.out, HV3.out⟩, Below.refl _ _⟩
    (fun x a' W => ∃ b, W0.heap.size ≤ b ∧ Six W b x.v.nd (.slice x.p x.v.list.length x.cap) ∧ a' = { tmps := #[.agg #[.int .u8 a.k, .int .i64 a.n, .int .i64 a.d, .bool a.t, .string a.s, .slice p l.length cap], .pointer (some ⟨w.heap.size, 0, none⟩), .pointer (some ⟨w.heap.size + 1, 0, none⟩), .pointer (some ⟨w.heap.size + 1 + 1, 0, none⟩), .pointer (some ⟨w.heap.size + 1 + 1 + 1, 0, none⟩), .pointer (some ⟨b, 0, none⟩), .int .i64 x.dep,
        .agg #[.int .u8 a.k, .int .i64 a.n, .int .i64 a.d, .bool a.t, .string a.s, .slice p l.length cap], .func (.func 62) #[] #[.pointer (some ⟨w.heap.size + 1 + 1 + 1 + 1, 0, none⟩)], .agg #[.int .u8 x.v.nd.k, .int .i64 x.v.nd.n, .int .i64 x.v.nd.d, .bool x.v.nd.t, .string x.v.nd.s, .slice x.p x.v.list.length x.cap], .int .i64 x.dep, undef, undef, undef, undef, undef, undef, undef, undef, undef, undef, undef, undef], defers := [] })
    ?own ?assign ?body ?done ?stop
  case own =>
    intro x a' s X Y row hs hg hrow
    obtain ⟨b, hb, h6, he⟩ := hs
    exact ⟨b, hb, six_own (fun _ : Unit => (b, x.v.nd, .slice x.p x.v.list.length x.cap)) () X Y row h6 hg (fun r e => (hrow r e).2), he⟩
  case assign =>
    intro lo pr x W K hI hK
    have HI := Lib.hid hI
    have HK := Lib.hid hK
    have hsz := hI.2.size
    clear hI hK
    gi_wp2_with fail
    have hb1 : Below W.heap.size W (W.alloc (.cells #[.int .u8 x.v.nd.k, .int .i64 x.v.nd.n, .int .i64 x.v.nd.d, .bool x.v.nd.t, .string x.v.nd.s, .slice x.p x.v.list.length x.cap] 28)) := (Below.refl _ _).alloc (Nat.le_refl _) _
    refine HK.out _ _ ((KeepsOthers.alloc _ _).from _) (KpC.of hb1 (Nat.le_trans HB0.out.size hsz)) ?_ ⟨_, hsz, Six.new W x.v.nd (.slice x.p x.v.list.length x.cap), rfl⟩
    obtain ⟨⟨⟨h1, h2⟩, h3, h4⟩, h5⟩ := HI.out
    exact ⟨⟨⟨h1, h2.alloc _⟩, h3.alloc _, h4.alloc _⟩, h5.trans (hb1.mono (Nat.le_trans HB0.out.size hsz))⟩
  case body =>
    rintro lo pr x a' W hlo hrec ⟨⟨⟨⟨hl, hd⟩, hR0⟩, hF0, hC0⟩, hB⟩ ⟨b, hb, h6, rfl⟩ hN
    have HL := Lib.hid hl
    have HD := Lib.hid hd
    have HR0 := Lib.hid hR0
    have HF0 := Lib.hid hF0
    have HB := Lib.hid hB
    have H6 := Lib.hid h6
    have hsz5 : w.heap.size + 5 ≤ W0.heap.size := Nat.le_of_eq HSz.out.symm
    have HC1 := Lib.hid (hC0.set (.int .i64 ((pr.length : Int) + 1)))
    have HK1 : Hid (KeepsFrom W0.heap.size W (W.setCell ⟨w.heap.size + 1 + 1 + 1, 0, none⟩ (.int .i64 ((pr.length : Int) + 1)))) := Lib.hid ((KeepsOthers.setCell _ _ _).from _)
    have HB1 := Lib.hid (hB.setCell (p := ⟨w.heap.size + 1 + 1 + 1, 0, none⟩) (by show w.heap.size ≤ w.heap.size + 1 + 1 + 1; omega) (.int .i64 ((pr.length : Int) + 1)))
    have HR1 := Lib.hid (hR0.other (B' := w.heap.size + 1 + 1 + 1) (by omega) (.int .i64 ((pr.length : Int) + 1)))
    have HF1 := Lib.hid (hF0.other (B' := w.heap.size + 1 + 1 + 1) (by omega) (.int .i64 ((pr.length : Int) + 1)))
    have H61 := Lib.hid (h6.other (p := ⟨w.heap.size + 1 + 1 + 1, 0, none⟩) (by show b ≠ w.heap.size + 1 + 1 + 1; omega) (.int .i64 ((pr.length : Int) + 1)))
    have c0 := hC0.cell
    have c1 := hC0.frozen
    have c2 := hC0.lt
    have r0 := HR1.out.cell
    have r1 := HR1.out.frozen
    have r2 := HR1.out.lt
    have hb5 : ¬ b = w.heap.size + 1 + 1 + 1 := by omega
    have hb6 : ¬ b = w.heap.size + 1 := by omega
    have d1 : ¬ w.heap.size + 1 = w.heap.size + 1 + 1 + 1 := by omega
    have hpl : (0 : Int) ≤ (pr.length : Int) := by omega
    have hpm : (pr.length : Int) ≤ 100 := by omega
    clear hl hd hR0 hF0 hB h6 hC0
    by_cases hmany : 100 < pr.length + 1 ∨ 6 < x.dep
    · have HMn : Hid (100 < (pr ++ [x]).length ∨ ∃ q ∈ pr ++ [x], 6 < q.dep) := Lib.hid (by
        rcases hmany with h | h
        · left; rw [List.length_append, List.length_singleton]; exact h
        · right; exact ⟨x, by simp, h⟩)
      by_cases z2 : (100 : Int) < (pr.length : Int) + 1
      · clear hmany
        gi_wp2_with fail
        refine ⟨HK1.out.trans ((KeepsOthers.setCell _ _ _).from _), ⟨⟨rfl, HMn.out⟩, HR1.out.set _⟩, HB1.out.setCell (p := ⟨w.heap.size + 1, 0, none⟩) (by show w.heap.size ≤ w.heap.size + 1; omega) _⟩
      · have z3 : (6 : Int) < x.dep := by omega
        clear hmany
        gi_wp2_with fail
        refine ⟨HK1.out.trans ((KeepsOthers.setCell _ _ _).from _), ⟨⟨rfl, HMn.out⟩, HR1.out.set _⟩, HB1.out.setCell (p := ⟨w.heap.size + 1, 0, none⟩) (by show w.heap.size ≤ w.heap.size + 1; omega) _⟩
    · have z2 : ¬ (100 : Int) < (pr.length : Int) + 1 := by omega
      have z3 : ¬ (6 : Int) < x.dep := by omega
      have HM := Lib.hid hmany
      have q0 := H61.out.row.c0
      have q1 := H61.out.row.c1
      have q2 := H61.out.row.c2
      have q3 := H61.out.row.c3
      have q4 := H61.out.row.c4
      have q5 := H61.out.row.c5
      have q6 := H61.out.lt
      simp only [Nat.zero_add] at q1 q2 q3 q4 q5
      clear hmany
      gi_wp2_with fail
      refine ⟨trivial, ?_⟩
      refine (CallsIn.inRound lo (callsIn_wide.2 (sound_any x.v.nd x.v.list x.p x.cap _))).mono ?_
      rintro e w1 ⟨rfl, hb1⟩
      have HK2 := Lib.hid (HK1.out.trans (keeps_below hb1 W0.heap.size))
      have HBx := Lib.hid (HB1.out.trans (hb1.mono (Nat.le_trans HB0.out.size HB1.out.size)))
      have HKp : Hid (KpC w.heap.size W0.heap.size W w1) := Lib.hid (KpC.trans (KpC.set (KpC.refl _ _ _) (by omega) (by omega) _) (KpC.of hb1 (Nat.le_trans HB0.out.size HB1.out.size)))
      have HC2 := Lib.hid (boxed_below HC1.out hb1)
      have HF2 := Lib.hid (boxed_below HF1.out hb1)
      have HR2 := Lib.hid (boxed_below HR1.out hb1)
      have HLn : Hid ((pr ++ [x]).length ≤ 100 ∧ ∀ q ∈ pr ++ [x], q.dep ≤ 6) := Lib.hid ⟨by have := HM.out; rw [List.length_append, List.length_singleton]; omega, fun q hq => by
        rw [List.mem_append, List.mem_singleton] at hq
        rcases hq with hq | rfl
        · exact HD.out q hq
        · have := HM.out; omega⟩
      have HCn : Hid ((((pr ++ [x]).length : Nat) : Int) = (pr.length : Int) + 1) := Lib.hid (by simp)
      have HFn := Lib.hid (fltI_snoc pr x)
      have f0 := HF2.out.cell
      have f1 := HF2.out.frozen
      have f2 := HF2.out.lt
      clear hb1 q0 q1 q2 q3 q4 q5 q6 c0 c1 c2 r0 r1 r2
      cases hsd : sndB x.v.nd x.v.list.length
      · rw [hsd] at HFn
        gi_wp2_with fail
        refine ⟨HK2.out.trans ((KeepsOthers.setCell _ _ _).from _), KpC.set HKp.out (by omega) (by omega) _, ⟨⟨⟨HLn.out, HR2.out.other (by omega) _⟩, ?_, ?_⟩, HBx.out.setCell (p := ⟨w.heap.size + 1 + 1, 0, none⟩) (by show w.heap.size ≤ w.heap.size + 1 + 1; omega) _⟩⟩
        · rw [HFn.out]; exact HF2.out.set _
        · rw [HCn.out]; exact HC2.out.other (by omega) _
      · rw [hsd] at HFn
        gi_wp2_with fail
        refine ⟨HK2.out, HKp.out, ⟨⟨⟨HLn.out, HR2.out⟩, ?_, ?_⟩, HBx.out⟩⟩
        · rw [HFn.out]; exact HF2.out
        · rw [HCn.out]; exact HC2.out
  case done =>
    rintro D ys W hD hS ⟨⟨⟨⟨hl, hd⟩, hR0⟩, hF0, hC0⟩, hB⟩ hK
    have HC := Lib.hid (flt_end hS hl hd)
    have HB := Lib.hid (HB0.out.trans hB)
    have HK := Lib.hid hK
    have hD2 : w.heap.size ≤ D := Nat.le_trans HB0.out.size hD
    have HR := Lib.hid hR0
    have f0 := hF0.cell
    have f2 := hF0.lt
    have r0 := hR0.cell
    have r1 := hR0.frozen
    have r2 := hR0.lt
    have d1 : ¬ w.heap.size + 1 = w.heap.size + 1 + 1 := by omega
    clear hS hl hd hF0 hC0 hR0 hB hK
    generalize fltI ys = F at HC f0
    gi_wp2_with fail
    have hK' := (KeepsOthers.setCell W ⟨w.heap.size + 1, 0, none⟩ (.int .i64 F)).same D _ HK.out rfl
    refine ⟨by simp, .inl ⟨_, _, rfl, run_takeDeferred hK', ?_⟩⟩
    have hv' := HR.out.set (.int .i64 F)
    have hc5 := cell_kept hv'.cell (grownBy_putObj' _ D (.deferred none)) (fun r e => by cases e; exact ⟨_, hK', rfl⟩)
    refine ⟨.int .i64 F, by simp [results, Tryz.f20, go_sem, hc5], ret_int HC.out.symm, ?_⟩
    exact (HB.out.setCell (p := ⟨w.heap.size + 1, 0, none⟩) (by show w.heap.size ≤ w.heap.size + 1; omega) _).trans (belowK_b (w := w) (Nat.le_refl _) _ D _ _ hD2 hK' rfl rfl)
  case stop =>
    rintro D cc pr W hD hpre ⟨⟨⟨rfl, hx⟩, hv⟩, hB⟩ hK
    have HC := Lib.hid (flt_many hpre hx)
    have HV := Lib.hid hv
    have HB := Lib.hid (HB0.out.trans hB)
    have HK := Lib.hid hK
    have hD2 : w.heap.size ≤ D := Nat.le_trans HB0.out.size hD
    clear hx hpre hB hD hK hv
    gi_wp2_with fail
    refine ⟨by simp, .inl ⟨_, _, rfl, run_takeDeferred HK.out, ?_⟩⟩
    have hc5 := cell_kept HV.out.cell (grownBy_putObj' _ D (.deferred none)) (fun r e => by cases e; exact ⟨_, HK.out, rfl⟩)
    refine ⟨.int .i64 4, by simp [results, Tryz.f20, go_sem, hc5], ret_int HC.out.symm, ?_⟩
    exact HB.out.trans (belowK_b (w := w) (Nat.le_refl _) _ D _ _ hD2 HK.out rfl rfl)
end Go.Proofs.YtakjgjhjndiggaaGreatDoor
