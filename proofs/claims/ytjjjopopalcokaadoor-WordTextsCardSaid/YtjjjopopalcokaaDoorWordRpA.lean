/-
  Where the reference's Parse stands; what Check says of whatever word.
-/
import Derived.Test.YtjjjopopalcokaaDoorWordRpM
import Derived.Test.YtjjjopopalcokaaDoorWordRefB
import Derived.Test.YtjjjopopalcokaaDoorWordPrJ
import Derived.OneCell
import Derived.Lib.BufferMore
namespace Go.Proofs.YtjjjopopalcokaaDoor
open Go.RowKit
open WM
set_option linter.unusedVariables false
set_option linter.unusedSimpArgs false

theorem modFr_snocR {base : Nat} {wr X3 X4 : World} {l : List Md} {m : Md} {v v' v2 : Value} {vs : List Value} (h : ModFr wr base v l vs) (hbase : base ≤ wr.heap.size) (e : Below wr.heap.size wr X3) (ha : X3.ownsRow wr.heap.size 3 1 v' m.a.length (valsL m.a))
    (o4 : X4.ownsRow base 27 2 v2 (l.length + 1) (modC l vs ++ [.int .u8 m.c.toNat, v'])) (g4 : X3.grownBy X4 v.ownBlock) (b4 : v2.ownBlock = v.ownBlock ∨ v2.ownBlock = some X3.heap.size) : ModFr X4 base v2 (l ++ [m]) (vs ++ [v']) := by
  have hvl := owns_lt h.row
  have z := e.size
  have hal := owns_lt ha
  have n1 : v' = .slice none 0 0 ∨ v'.ownBlock ≠ v.ownBlock := by
    rcases nilOr_of_owned ha with e | ⟨ad, n, c, e⟩
    · exact .inl e
    · right; intro e2
      have e3 : v'.ownBlock = some ad.block := by rw [e]; rfl
      have := (hal _ e3).1
      have := (hvl _ (by rw [← e2, e3])).2
      omega
  have n2 : v' = .slice none 0 0 ∨ v'.ownBlock ≠ v2.ownBlock := by
    rcases nilOr_of_owned ha with e | ⟨ad, n, c, e⟩
    · exact .inl e
    · right; intro e2
      have e3 : v'.ownBlock = some ad.block := by rw [e]; rfl
      rcases b4 with h | h
      · rcases n1 with e4 | e4
        · rw [e] at e4; simp at e4
        · exact e4 (e2.trans h)
      · have := (hal _ e3).2
        rw [e3, h] at e2
        have := Option.some.inj e2; omega
  refine ⟨by rw [List.length_append, List.length_append, h.len]; rfl, by rw [List.length_append, modC_snoc _ _ _ _ h.len.symm]; exact o4, ?_⟩
  intro k hk hk2
  rw [List.length_append, List.length_singleton] at hk
  rcases Nat.lt_or_eq_of_le (Nat.le_of_lt_succ hk) with hlt | heq
  · have hk3 : k < vs.length := by rw [h.len]; exact hlt
    rw [List.getElem_append_left hlt, List.getElem_append_left hk3]
    have A := h.args k hlt hk3
    have A2 := A.kept (rb' := v.ownBlock) (grown_of_below e none) (none_or _) A.apart
    refine A2.kept g4 (apart_or A.apart) ?_
    rcases argFr_block A with e | ⟨q, ob, q1, q2⟩
    · exact .inl e
    · right; intro e2
      rcases b4 with h | h
      · rcases A.apart with e | e
        · rw [e] at ob; simp [Value.ownBlock] at ob
        · exact e (e2.trans h)
      · rw [ob, h] at e2
        have := Option.some.inj e2; omega
  · subst heq
    have a1 : (vs ++ [v'])[l.length]'hk2 = v' := by rw [List.getElem_append_right (by rw [h.len]; exact Nat.le_refl _)]; simp
    have a2 : (l ++ [m])[l.length]'(by simp) = m := by simp
    rw [a1, a2]
    exact ⟨owns_mono (ha.kept g4 (apart_or n1)) hbase, n2⟩
theorem r_own_later {w w1 : World} {base n size : Nat} {e : TypeId} {v : Value} {xs : List Value} (h : w.ownsRow base e size v n xs) (hb : Below w.heap.size w w1) : w1.ownsRow base e size v n xs := by
  refine ⟨h.1, ?_⟩
  rcases h.2 with h1 | ⟨g, cap, cur, h1, h2, h3, h4⟩
  · exact .inl h1
  · exact .inr ⟨g, cap, cur, h1, h2, (hb.block g (lt_of_block h3)).trans h3, h4⟩
theorem own_slice {w : World} {base n size : Nat} {e : TypeId} {v : Value} {xs : List Value} (h : w.ownsRow base e size v n xs) : ∃ p c, v = .slice p n c := by
  rcases h.2 with ⟨h1, h2⟩ | ⟨g, cap, cur, h1, _⟩
  · exact ⟨none, 0, by rw [h1, h2]⟩
  · exact ⟨_, _, h1⟩
/-- Where the inner loop stands. -/
structure InAt (wr : World) (L : Bs) (k : Nat) (c : UInt8) (a : List Int) (m : Nat) (va : Value) (wi : World) : Prop where
  below : Below wr.heap.size wr wi
  blk : wi.heap[wr.heap.size]? = some (.cells #[.int .u8 c.toNat, va] 27 (0, 0))
  own : wi.ownsRow (wr.heap.size + 1) 3 1 va a.length (valsL a)
  few : a.length ≤ m
  pos : k < m
  hi : m ≤ L.length
  eq : AAt L k a m
theorem inAt_start {wr : World} {L : Bs} {k : Nat} {c : UInt8} (hk : k < L.length) : InAt wr L k c [] (k + 1) (.slice none 0 0) (wr.alloc (.cells #[.int .u8 c.toNat, .slice none 0 0] 27)) :=
  ⟨(Below.refl _ _).alloc (Nat.le_refl _) _, heap_alloc_new _ _, World.ownsRow_nil _ _ _ _, by simp, by omega, by omega, aat_start L k⟩
theorem inAt_step {wr wi w3 : World} {L : Bs} {k m m2 : Nat} {c : UInt8} {a : List Int} {n : Int} {va v2 : Value} {tmp : Obj} (h : InAt wr L k c a m va wi) (ho : w3.ownsRow (wr.heap.size + 1) 3 1 v2 (a.length + 1) (valsL a ++ [.int .i64 n])) (hg : (wi.alloc tmp).grownBy w3 va.ownBlock)
    (hm : m < L.length) (hb : moreB a L[m] = true) (hn : numR (L.drop (m + 1)) = some (n, L.drop m2)) (hlt : m + 1 < m2) (hm2 : m2 ≤ L.length) : InAt wr L k c (a ++ [n]) m2 v2 (w3.setCell ⟨wr.heap.size, 1, none⟩ v2) := by
  have z := h.below.size
  have hlt2 := lt_of_block h.blk
  have hv := owns_lt h.own
  have hb3 : w3.heap[wr.heap.size]? = some (.cells #[.int .u8 c.toNat, va] 27 (0, 0)) := by
    rw [hg.block wr.heap.size (by simp; omega) (fun e => by have := (hv _ e.symm).1; omega)]
    exact heap_alloc_old h.blk _
  have ho2 : w3.ownsRow (wr.heap.size + 1) 3 1 v2 (a ++ [n]).length (valsL (a ++ [n])) := by
    rw [List.length_append, valsL_app]; exact ho
  refine ⟨((h.below.alloc z tmp).grown hg (by simp; omega) (fun j e => by have := (hv j e).1; omega)).setCell (Nat.le_refl _) _, ?_, ?_, ?_, by have := h.pos; omega, hm2, aat_more h.eq hm hb hn (by omega)⟩
  · have := Lib.heap_setCell_same (i := 1) hb3 v2
    simpa using this
  · refine ownsRow_setCell_other ho2 ?_ _
    intro e
    have := (owns_lt ho2 _ e).1
    simp at this; omega
  · rw [List.length_append, List.length_singleton]; have := h.few; omega
/-- Where the outer loop stands. -/
structure OutAt (w : World) (L : Bs) (d : List Md) (k : Nat) (v : Value) (wr : World) : Prop where
  below : Below w.heap.size w wr
  own : ∃ vs, ModFr wr w.heap.size v d vs
  few : d.length ≤ k
  hi : k ≤ L.length
  args : ∀ m ∈ d, m.a.length ≤ 60000
  eq : OAt L d k
/-- How Parse ends. -/
def RpEnd (L : Bs) (w : World) (e : Ending) (w' : World) : Prop := ∃ v c l, e = .returned (.tuple #[v, .int .i64 c]) ∧ Below w.heap.size w w' ∧ Mods w' v l ∧ (((50000 < L.length ∨ prs L = none) ∧ c = 12 ∧ l = []) ∨ (¬ 50000 < L.length ∧ prs L = some l ∧ c = 0))
theorem rpEnd_no {L : Bs} {w w' : World} (hb : Below w.heap.size w w') (h : 50000 < L.length ∨ prs L = none) : RpEnd L w (.returned (.tuple #[.slice none 0 0, .int .i64 12])) w' := ⟨_, _, _, rfl, hb, .none _ _, .inl ⟨h, rfl, rfl⟩⟩
theorem rpEnd_yes {L : Bs} {l : List Md} {v : Value} {w w' : World} (hb : Below w.heap.size w w') (hm : Mods w' v l) (h : ¬ 50000 < L.length) (h2 : prs L = some l) : RpEnd L w (.returned (.tuple #[v, .int .i64 0])) w' := ⟨_, _, _, rfl, hb, hm, .inr ⟨h, h2, rfl⟩⟩
set_option maxRecDepth 100000 in
set_option maxHeartbeats 1600000 in
theorem check_big (v : Value) (l : List Md) (hmax : l.length ≤ 9223372036854775807) (hargs : ∀ m ∈ l, m.a.length ≤ 9223372036854775807) (w : World) (hv : Mods w v l) :
    Calls Tryd.prog 36 #[v] w fun e w' => e = .returned (.int .i64 (chk l)) ∧ Below w.heap.size w w' := by
  obtain ⟨p, cap, rfl⟩ := hv.slice
  have HV := Lib.hid hv
  have HA := Lib.hid hargs
  clear hv hargs
  by_cases hlen : 2000 < l.length
  · have HC := Lib.hid (chk_many hlen)
    have c1 : (2000 : Int) < (l.length : Int) := by omega
    go_enter Tryd.func36, Tryd.ntmps36
    go_wp2_with fail
    go_ret
    exact ⟨ret_int HC.out.symm, Below.refl _ _⟩
  · have c1 : ¬ (2000 : Int) < (l.length : Int) := by omega
    go_enter Tryd.func36, Tryd.ntmps36
    go_wp2_with fail
    go_loopw [3] (fun i wr => ∃ k : Nat, k ≤ l.length ∧ i = .int .i64 k ∧ Below w.heap.size w wr ∧ ∀ j, (h : j < l.length) → j < k → fineB l[j] = true) (fun i _ => l.length - (intOf i).toNat)
    case atStart => exact ⟨0, Nat.zero_le _, rfl, Below.refl _ _, fun j _ h => by omega⟩
    case round =>
      obtain ⟨k, hk, rfl, hb, hok⟩ := hrel
      have HK := Lib.hid hok
      have HB := Lib.hid hb
      clear hok hb
      by_cases hlt : k < l.length
      · obtain ⟨b, off, cap', q, c, hp, e1, e2, hin, lb⟩ := (HV.out.later (HB.out.mono (Nat.le_refl _))).at hlt
        obtain rfl : p = some ⟨b, off, none⟩ := by cases hp; rfl
        have HF := Lib.hid (fine_any l[k] _ (by have := HA.out _ (List.getElem_mem hlt); omega) wr hin)
        obtain ⟨t, ht⟩ : ∃ t, fineB l[k] = t := ⟨_, rfl⟩
        have HT := Lib.hid ht
        rw [ht] at HF
        clear hp hin ht
        generalize l[k].c.toNat = cn at e1 HF
        generalize l[k].a.length = an at e2 HF
        cases t with
        | false =>
          have HC := Lib.hid (chk_bad hlen (bad_at hlt HT.out))
          go_wp2_with fail
          refine HF.out.mono ?_
          rintro e w1 ⟨rfl, hb⟩
          have HB1 := Lib.hid (HB.out.trans (hb.mono HB.out.size))
          clear hb
          go_wp2_with fail
          go_ret
          exact ⟨ret_int HC.out.symm, HB1.out⟩
        | true =>
          have HG : Hid (∀ j, (h : j < l.length) → j < k + 1 → fineB l[j] = true) := Lib.hid (fun j h hj => by
            rcases Nat.lt_or_eq_of_le (Nat.le_of_lt_succ hj) with h1 | h1
            · exact HK.out j h h1
            · subst h1; exact HT.out)
          go_wp2_with fail
          refine HF.out.mono ?_
          rintro e w1 ⟨rfl, hb⟩
          have HB1 := Lib.hid (HB.out.trans (hb.mono HB.out.size))
          clear hb
          go_wp2_with fail
          go_roundw
          case rel => exact ⟨k + 1, by omega, by go_num, HB1.out, HG.out⟩
          case measure => simp [intOf]; omega
      · obtain rfl : k = l.length := by omega
        have HGd := Lib.hid (good_all fun j h => HK.out j h h)
        have HO := Lib.hid (open_any _ l (by omega) wr (HV.out.later (HB.out.mono (Nat.le_refl _))))
        go_wp2_with fail
        refine HO.out.mono ?_
        rintro e w1 ⟨hb, ⟨hno, rfl⟩ | ⟨hyes, v1, rfl, hi⟩⟩
        · have HB1 := Lib.hid (HB.out.trans (hb.mono HB.out.size))
          have HC := Lib.hid (chk_open hlen HGd.out (by rw [hno]; rfl))
          clear hb hno
          go_wp2_with fail
          go_ret
          exact ⟨ret_int HC.out.symm, HB1.out⟩
        · have HB1 := Lib.hid (HB.out.trans (hb.mono HB.out.size))
          have HI := Lib.hid hi
          obtain ⟨p1, cap1, rfl⟩ := hi.slice
          have hlenO : (opnL l l.length).length = l.length := opnL_length _ _
          rw [hlenO] at HI ⊢
          have HY := Lib.hid hyes
          clear hb hyes hi
          by_cases h0 : 0 < l.length
          · obtain ⟨b, off, cap', hp, e1, lb⟩ := HI.out.at (k := l.length - 1) (by rw [hlenO]; omega)
            rw [hlenO] at hp
            obtain rfl : p1 = some ⟨b, off, none⟩ := by cases hp; rfl
            rw [opnL_get (by omega), show l.length - 1 + 1 = l.length by omega, List.take_length] at e1
            have hge := okB_iff.1 HY.out (l.length - 1) (by omega)
            rw [show l.length - 1 + 1 = l.length by omega, List.take_length] at hge
            have n3 : ((l.length : Int) - 1).toNat = l.length - 1 := by omega
            have n4 : (0 : Int) ≤ (l.length : Int) - 1 := by omega
            have n5 : (l.length : Int) - 1 < (l.length : Int) := by omega
            have n6 : (0 : Int) < (l.length : Int) := by omega
            clear hp hlenO
            by_cases hd : dep l = 0
            · have HC : Hid (chk l = 0) := Lib.hid (chk_zero.2 ⟨by omega, HGd.out, HY.out, hd⟩)
              obtain ⟨d, hdd⟩ : ∃ d, dep l = d := ⟨_, rfl⟩
              rw [hdd] at e1 hge hd
              clear hdd
              subst hd
              go_wp2_with fail
              go_ret
              exact ⟨ret_int HC.out.symm, HB1.out⟩
            · have HC := Lib.hid (chk_open hlen HGd.out (by simp [hd]))
              obtain ⟨d, hdd⟩ : ∃ d, dep l = d := ⟨_, rfl⟩
              rw [hdd] at e1 hge hd
              clear hdd
              have hd1 : 0 < d := by omega
              go_wp2_with fail
              go_ret
              exact ⟨ret_int HC.out.symm, HB1.out⟩
          · have hl0 : l = [] := List.length_eq_zero_iff.1 (by omega)
            have HC : Hid (chk l = 0) := Lib.hid (by rw [hl0]; rfl)
            have n6 : ¬ (0 : Int) < (l.length : Int) := by omega
            clear hl0
            go_wp2_with fail
            go_ret
            exact ⟨ret_int HC.out.symm, HB1.out⟩
end Go.Proofs.YtjjjopopalcokaaDoor
