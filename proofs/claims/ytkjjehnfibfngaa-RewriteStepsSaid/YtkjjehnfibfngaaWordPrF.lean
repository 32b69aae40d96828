/-
  What the package's Twin hands back: a copy in memory of the call's own.
-/
import Derived.Test.YtkjjehnfibfngaaWordPrE
import Derived.Test.YtkjjehnfibfngaaWordFr
namespace Go.Proofs.Ytkjjehnfibfngaa
open Go.RowKit
open WM
set_option linter.unusedVariables false
set_option linter.unusedSimpArgs false

/-- Where Twin stands. -/
structure TpAt (w : World) (l : List Md) (v : Value) (k : Nat) (vs : List Value) (wr : World) : Prop where
  hi : k ≤ l.length
  below : Below w.heap.size w wr
  len : vs.length = l.length
  row : wr.ownsRow w.heap.size 27 2 v l.length (modC l vs)
  new : ∀ j, (h : j < l.length) → (h2 : j < vs.length) → j < k → ArgFr wr w.heap.size v.ownBlock vs[j] l[j].a
  old : ∀ j, (h : j < l.length) → (h2 : j < vs.length) → k ≤ j → Ints w vs[j] l[j].a ∧ NilOr vs[j]
theorem TpAt.fin {w wr : World} {l : List Md} {v : Value} {vs : List Value} (h : TpAt w l v l.length vs wr) : ModFr wr w.heap.size v l vs := ⟨h.len, h.row, fun k hk hk2 => h.new k hk hk2 hk⟩
theorem tpAt_step {w wr w2 : World} {l : List Md} {g cap : Nat} {k : Nat} {vs : List Value} {v' : Value} (h : TpAt w l (.slice (some ⟨g, 0, none⟩) l.length cap) k vs wr) (hk : k < l.length)
    (hb : Below wr.heap.size wr w2) (ho : w2.ownsRow wr.heap.size 3 1 v' l[k].a.length (valsL l[k].a)) :
    TpAt w l (.slice (some ⟨g, 0, none⟩) l.length cap) (k + 1) (vs.set k v') (w2.setCell ⟨g, k * 2 + 1, none⟩ v') := by
  have hg : w.heap.size ≤ g ∧ g < wr.heap.size := owns_lt h.row g rfl
  have g12 := grown_of_below hb none
  have r2 := h.row.kept g12 (.inr (by simp [Value.ownBlock]))
  obtain ⟨r3, g23⟩ := r2.stored (k * 2 + 1) v'
  rw [modC_set l vs k v' h.len.symm] at r3
  have hlt := owns_lt ho
  have hk2 : k < vs.length := by rw [h.len]; exact hk
  have nk : v' = .slice none 0 0 ∨ v'.ownBlock ≠ some g := by
    rcases nilOr_of_owned ho with e | ⟨ad, n, c, e⟩
    · exact .inl e
    · right; intro e2
      have := (hlt g e2).1; omega
  have nk2 : ∀ {v : Value} {rb : Option Nat}, v = .slice none 0 0 ∨ v.ownBlock ≠ rb → v.ownBlock = none ∨ v.ownBlock ≠ rb := by
    rintro v rb (e | e)
    · left; rw [e]; rfl
    · exact .inr e
  have none_or : ∀ v : Value, v.ownBlock = none ∨ v.ownBlock ≠ none := fun v => by
    cases hv : v.ownBlock with
    | none => exact .inl rfl
    | some g => exact .inr (by simp)
  refine ⟨hk, (h.below.trans (hb.mono h.below.size)).setCell hg.1 _, by rw [List.length_set]; exact h.len, r3, ?_, ?_⟩
  · intro j hj hj2 hjk
    rw [List.length_set] at hj2
    by_cases e : k = j
    · subst e
      rw [List.getElem_set_self]
      exact ⟨(owns_mono ho h.below.size).kept g23 (nk2 nk), nk⟩
    · rw [List.getElem_set_ne e]
      have A := h.new j hj hj2 (by omega)
      exact (A.kept g12 (none_or _) A.apart).kept g23 (nk2 A.apart) A.apart
  · intro j hj hj2 hjk
    rw [List.length_set] at hj2
    rw [List.getElem_set_ne (by omega)]
    exact h.old j hj hj2 (by omega)
/-- How Twin ends. -/
def TwEnd (l : List Md) (w : World) (e : Ending) (w' : World) : Prop := ∃ v' vs, e = .returned v' ∧ Below w.heap.size w w' ∧ ModFr w' w.heap.size v' l vs
set_option maxRecDepth 100000 in
set_option maxHeartbeats 1600000 in
theorem ptwin_any (v : Value) (l : List Md) (hmax : l.length ≤ 50000) (hargs : ∀ m ∈ l, m.a.length ≤ 1000000) (w : World) (hv : Mods w v l) (hnil : NilOr v) :
    Calls Try.prog 34 #[v] w (TwEnd l w) := by
  have HK := Lib.hid (copiedm_any v l hmax w hv hnil)
  have HA := Lib.hid hargs
  clear hv hnil hargs
  go_enter Try.func34, Try.ntmps34
  go_wp2_with fail
  refine HK.out.mono ?_
  rintro e w1 ⟨v1, vs, rfl, hb, hl, ho, hi⟩
  have S0 : TpAt w l v1 0 vs w1 := ⟨Nat.zero_le _, hb, hl, ho, fun j _ _ h => by omega, fun j h h2 _ => hi j h h2⟩
  rcases nilOr_of_owned ho with rfl | ⟨ad, n, c, rfl⟩
  · have h0 : l.length = 0 := by
      rcases ho.2 with ⟨_, h⟩ | ⟨g, cap, cur, h, _⟩
      · exact h
      · simp at h
    have HE : Hid (ModFr w1 w.heap.size (.slice none 0 0) l vs) := Lib.hid (TpAt.fin (by rw [h0]; exact S0))
    have HB := Lib.hid hb
    clear hb hl ho hi S0 h0 HK
    go_wp2_with fail
    go_loop [9] (fun i => i = .int .i64 0) (fun _ => 0)
    case atStart => rfl
    case round =>
      subst hrel
      go_wp2_with fail
      go_ret
      exact ⟨_, vs, rfl, HB.out, HE.out⟩
  · obtain ⟨g, cap, hg⟩ : ∃ g cap, Value.slice (some ad) n c = .slice (some ⟨g, 0, none⟩) l.length cap := by
      rcases ho.2 with ⟨h, _⟩ | ⟨g, cap, cur, h, _⟩
      · simp at h
      · exact ⟨g, cap, h⟩
    rw [hg] at S0 ⊢
    have HS0 := Lib.hid S0
    clear hb hl ho hi S0 hg HK
    go_wp2_with fail
    go_loopw [9] (fun i wr => ∃ (k : Nat) (us : List Value), i = .int .i64 k ∧ TpAt w l (.slice (some ⟨g, 0, none⟩) l.length cap) k us wr) (fun i _ => l.length - (intOf i).toNat)
    case atStart => exact ⟨0, vs, rfl, HS0.out⟩
    case round =>
      obtain ⟨k, us, rfl, hS⟩ := hrel
      have HS := Lib.hid hS
      have n1 := hS.hi
      by_cases hlt : k < l.length
      · have k1 : (k : Int) < (l.length : Int) := by omega
        have hk2 : k < us.length := by rw [hS.len]; exact hlt
        have hgl := owns_lt hS.row g rfl
        have q1 := hS.row.cellAt (k * 2 + 1) (by omega)
        rw [(modC_get l us k hlt hk2).2] at q1
        have hold := hS.old k hlt hk2 (Nat.le_refl _)
        have HKI := Lib.hid (copiedi_any us[k] l[k].a (HA.out _ (List.getElem_mem hlt)) wr (hold.1.later (hS.below.mono (Nat.le_refl _))) hold.2)
        have HF := Lib.hid (fun (w2 : World) (hb : Below wr.heap.size wr w2) => (hS.row.kept (grown_of_below hb none) (.inr (by simp [Value.ownBlock]))))
        have HSt := Lib.hid (fun w2 v' hb ho => tpAt_step (w2 := w2) (v' := v') hS hlt hb ho)
        obtain ⟨p1, c1, hu⟩ := hold.1.slice
        rw [hu] at q1 HKI
        clear hS hold hu
        go_wp2_with fail
        refine HKI.out.mono ?_
        rintro e w2 ⟨v', rfl, hb, ho⟩
        have HT := Lib.hid (HSt.out w2 v' hb ho)
        have f1 := (HF.out w2 hb).frozenAt (k * 2 + 1)
        have q2 := (HF.out w2 hb).cellAt (k * 2 + 1) (by omega)
        rw [(modC_get l us k hlt hk2).2] at q2
        have l2 := Nat.lt_of_lt_of_le hgl.2 hb.size
        obtain ⟨p2, n2, c2, rfl⟩ : ∃ p n c, v' = .slice p n c := by
          rcases nilOr_of_owned ho with h | ⟨ad, n, c, h⟩
          · exact ⟨_, _, _, h⟩
          · exact ⟨_, _, _, h⟩
        generalize us[k] = z at q2
        clear hb ho
        go_wp2_with fail
        go_roundw
        case rel => exact ⟨k + 1, _, by go_num, HT.out⟩
        case measure => simp [intOf]; omega
      · have hk : k = l.length := by omega
        have HE : Hid (ModFr wr w.heap.size (.slice (some ⟨g, 0, none⟩) l.length cap) l us) := Lib.hid (TpAt.fin (by rw [← hk]; exact hk ▸ hS))
        have HB := Lib.hid hS.below
        have k1 : ¬ (k : Int) < (l.length : Int) := by omega
        clear hS
        go_wp2_with fail
        go_ret
        exact ⟨_, us, rfl, HB.out, HE.out⟩
end Go.Proofs.Ytkjjehnfibfngaa
