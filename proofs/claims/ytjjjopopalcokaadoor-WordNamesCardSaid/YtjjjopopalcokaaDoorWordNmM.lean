/-
  The words of WordNames: what the laws' checks of them say.
-/
import Derived.Test.YtjjjopopalcokaaDoorWordLawB
import Derived.Test.YtjjjopopalcokaaDoorWordBrM
namespace Go.Proofs.YtjjjopopalcokaaDoor
open Go.RowKit
open WM
set_option linter.unusedVariables false
set_option linter.unusedSimpArgs false

/-- What a refused string is. -/
def RefS (s : ByteArray) : Prop := s.size ≤ 9223372036854775807 ∧ pC (lA s) = 12
theorem refS_of {s : ByteArray} (hs : s.size ≤ 9223372036854775807) (h : ¬ 50000 < (lA s).length) (h2 : prs (lA s) = none) : RefS s := ⟨hs, (pC_none h h2).1⟩
theorem rf1 : RefS ⟨#[70, 32, 40, 49, 41]⟩ := refS_of (by decide) (by decide) (by decide +kernel)
theorem rf2 : RefS ⟨#[35]⟩ := refS_of (by decide) (by decide) (by decide +kernel)
theorem rf3 : RefS ⟨#[93, 70, 91]⟩ := refS_of (by decide) (by decide) (by decide +kernel)
theorem rf4 : RefS ⟨#[70, 40, 49]⟩ := refS_of (by decide) (by decide) (by decide +kernel)
theorem rf5 : RefS ⟨#[70, 40, 49, 44, 41]⟩ := refS_of (by decide) (by decide) (by decide +kernel)
theorem rf6 : RefS ⟨#[70, 40, 45, 48, 41]⟩ := refS_of (by decide) (by decide) (by decide +kernel)
theorem rf7 : RefS ⟨#[70, 40, 43, 49, 41]⟩ := refS_of (by decide) (by decide) (by decide +kernel)
theorem rf8 : RefS ⟨#[70, 40, 49, 44, 50, 44, 51, 44, 52, 44, 53, 41]⟩ := refS_of (by decide) (by decide) (by decide +kernel)
theorem rf9 : RefS ⟨#[91, 40, 49, 41, 93]⟩ := refS_of (by decide) (by decide) (by decide +kernel)
theorem rf10 : RefS ⟨#[70, 40, 49, 48, 48, 48, 48, 48, 48, 48, 48, 49, 41]⟩ := refS_of (by decide) (by decide) (by decide +kernel)
theorem rf11 : RefS ⟨#[70, 40, 49, 32, 41]⟩ := refS_of (by decide) (by decide) (by decide +kernel)
theorem rf12 : RefS ⟨#[40, 49, 41]⟩ := refS_of (by decide) (by decide) (by decide +kernel)
theorem rf13 : RefS ⟨#[70, 40, 49, 41, 40, 50, 41]⟩ := refS_of (by decide) (by decide) (by decide +kernel)
theorem rf14 : RefS ⟨#[49]⟩ := refS_of (by decide) (by decide) (by decide +kernel)
theorem refs_any (s : ByteArray) (h : RefS s) (w : World) (he : Env w) :
    Calls Tryd.prog 8 #[.string s] w fun e w' => e = .returned (.bool true) ∧ Below w.heap.size w w' := refused_any s h.1 h.2 w he
/-! ### Close -/
theorem clC_giv (i : Int) (h : atB giv i = false) : clC giv i = 2 := by unfold clC; rw [if_neg (by rw [giv_chk]; decide), if_neg (by rw [h]; decide)]
theorem cl0 : clC giv 0 = 2 := clC_giv _ (by decide)
theorem cl1 : clC giv (-1) = 2 := clC_giv _ (by decide)
theorem cl6 : clC giv 6 = 2 := clC_giv _ (by decide)
theorem cl4 : clV giv 4 = 1 ∧ clC giv 4 = 0 := cl_val (j := 4) (k := 1) giv_chk (cl_sym giv_chk giv_cl)
/-! ### Checks -/
theorem ck_zero : chk [(⟨0, []⟩ : Md)] = 8 := by decide +kernel
theorem ck_two : chk [(⟨93, []⟩ : Md), ⟨91, []⟩] = 28 := by decide +kernel
theorem ck_open : chk [(⟨91, []⟩ : Md)] = 28 := by decide +kernel
theorem ck_arg : chk [(⟨91, [1]⟩ : Md)] = 8 := by decide +kernel
theorem ck_far : chk [(⟨97, [-1000000001]⟩ : Md)] = 8 := by decide +kernel
theorem ck_four : chk [(⟨33, [0, 0, 0, 0]⟩ : Md)] = 0 := by decide +kernel
theorem ck_less : chk [(⟨60, []⟩ : Md)] = 8 := by decide +kernel
theorem ck_nil : chk [] = 0 := by decide +kernel
theorem mods_one {w : World} {g : Nat} {c : UInt8} {n : Int} (hn : n = ((c.toNat : Nat) : Int)) (h : w.heap[g]? = some (.cells #[.int .u8 n, .slice none 0 0] 27 (0, 0))) : Mods w (.slice (some ⟨g, 0, none⟩) 1 1) [⟨c, []⟩] := by
  subst hn
  refine .some g 0 1 [⟨c, []⟩] (by simp) (lt_of_block h) fun i hi => ?_
  have : i = 0 := by simp at hi; omega
  subst this
  exact ⟨by simp [World.cell?, h], _, by simp [World.cell?, h], .none _ _, .inl rfl⟩
theorem mods_two {w : World} {g : Nat} {c d : UInt8} {n m : Int} (hn : n = ((c.toNat : Nat) : Int)) (hm : m = ((d.toNat : Nat) : Int)) (h : w.heap[g]? = some (.cells #[.int .u8 n, .slice none 0 0, .int .u8 m, .slice none 0 0] 27 (0, 0))) : Mods w (.slice (some ⟨g, 0, none⟩) 2 2) [⟨c, []⟩, ⟨d, []⟩] := by
  subst hn; subst hm
  refine .some g 0 2 [⟨c, []⟩, ⟨d, []⟩] (by simp) (lt_of_block h) fun i hi => ?_
  have : i = 0 ∨ i = 1 := by simp at hi; omega
  rcases this with rfl | rfl
  · exact ⟨by simp [World.cell?, h], _, by simp [World.cell?, h], .none _ _, .inl rfl⟩
  · exact ⟨by simp [World.cell?, h], _, by simp [World.cell?, h], .none _ _, .inl rfl⟩
theorem mods_arg {w : World} {g : Nat} {c : UInt8} {n : Int} {a : List Int} {v : Value} (hn : n = ((c.toNat : Nat) : Int)) (h : w.heap[g]? = some (.cells #[.int .u8 n, v] 27 (0, 0))) (hi : Ints w v a) (hv : NilOr v) : Mods w (.slice (some ⟨g, 0, none⟩) 1 1) [⟨c, a⟩] := by
  subst hn
  refine .some g 0 1 [⟨c, a⟩] (by simp) (lt_of_block h) fun i hi2 => ?_
  have : i = 0 := by simp at hi2; omega
  subst this
  exact ⟨by simp [World.cell?, h], _, by simp [World.cell?, h], hi, hv⟩
/-- What checked hands back. -/
theorem checked_any (v : Value) (l : List Md) (hmax : l.length ≤ 9223372036854775807) (hargs : ∀ m ∈ l, m.a.length ≤ 9223372036854775807) (w : World) (hv : Mods w v l) :
    Calls Tryd.prog 9 #[v] w fun e w' => e = .returned (.int .i64 (chk l)) ∧ Below w.heap.size w w' := by
  have KC := Lib.hid (pcheck_any v l hmax hargs w hv)
  obtain ⟨c, hc⟩ : ∃ c, chk l = c := ⟨_, rfl⟩
  rw [hc] at KC ⊢
  clear hv hc hargs
  go_enter Tryd.func9, Tryd.ntmps9
  go_wp2_with fail
  refine KC.out.mono ?_
  rintro e w1 ⟨rfl, hb⟩
  have B1 := Lib.hid hb
  clear hb
  go_wp2_with fail
  go_ret
  exact ⟨rfl, B1.out⟩
/-- .. of one module that the call lays. -/
theorem checked_one {c : UInt8} {n r : Int} (hn : n = ((c.toNat : Nat) : Int)) (hr : chk [⟨c, []⟩] = r) (w : World) :
    Calls Tryd.prog 9 #[.slice (some ⟨w.heap.size, 0, none⟩) 1 1] (w.alloc (.cells #[.int .u8 n, .slice none 0 0] 27)) fun e w' => e = .returned (.int .i64 r) ∧ Below w.heap.size w w' := by
  refine (checked_any _ [⟨c, []⟩] (by simp) (by simp) _ (mods_one hn (heap_alloc_new _ _))).mono ?_
  rintro e w' ⟨rfl, hb⟩
  exact ⟨by rw [hr], ((Below.refl _ _).alloc (Nat.le_refl _) _).trans (hb.mono (by simp))⟩
theorem checked_two {c d : UInt8} {n m r : Int} (hn : n = ((c.toNat : Nat) : Int)) (hm : m = ((d.toNat : Nat) : Int)) (hr : chk [⟨c, []⟩, ⟨d, []⟩] = r) (w : World) :
    Calls Tryd.prog 9 #[.slice (some ⟨w.heap.size, 0, none⟩) 2 2] (w.alloc (.cells #[.int .u8 n, .slice none 0 0, .int .u8 m, .slice none 0 0] 27)) fun e w' => e = .returned (.int .i64 r) ∧ Below w.heap.size w w' := by
  refine (checked_any _ [⟨c, []⟩, ⟨d, []⟩] (by simp) (by simp) _ (mods_two hn hm (heap_alloc_new _ _))).mono ?_
  rintro e w' ⟨rfl, hb⟩
  exact ⟨by rw [hr], ((Below.refl _ _).alloc (Nat.le_refl _) _).trans (hb.mono (by simp))⟩
theorem row_new (w : World) (a : List Int) (h0 : 0 < a.length) : Ints (w.alloc (.cells (a.map (Value.int .i64)).toArray 3)) (.slice (some ⟨w.heap.size, 0, none⟩) a.length a.length) a := by
  have N := heap_alloc_new w (.cells (a.map (Value.int .i64)).toArray 3)
  refine .some w.heap.size 0 a.length a h0 (by simp) fun i hi => ?_
  show World.cell? _ _ = _
  unfold World.cell?
  simp only [Nat.zero_add]
  rw [N]
  simp [hi]
theorem checked_arg {c : UInt8} {n r : Int} {a : List Int} (hn : n = ((c.toNat : Nat) : Int)) (h0 : 0 < a.length) (ha : a.length ≤ 4) (hr : chk [⟨c, a⟩] = r) (w : World) :
    Calls Tryd.prog 9 #[.slice (some ⟨w.heap.size + 1, 0, none⟩) 1 1] ((w.alloc (.cells (a.map (Value.int .i64)).toArray 3)).alloc (.cells #[.int .u8 n, .slice (some ⟨w.heap.size, 0, none⟩) a.length a.length] 27)) fun e w' => e = .returned (.int .i64 r) ∧ Below w.heap.size w w' := by
  have hb1 : Below (w.alloc (.cells (a.map (Value.int .i64)).toArray 3)).heap.size (w.alloc (.cells (a.map (Value.int .i64)).toArray 3)) ((w.alloc (.cells (a.map (Value.int .i64)).toArray 3)).alloc (.cells #[.int .u8 n, .slice (some ⟨w.heap.size, 0, none⟩) a.length a.length] 27)) := (Below.refl _ _).alloc (Nat.le_refl _) _
  have N := heap_alloc_new (w.alloc (.cells (a.map (Value.int .i64)).toArray 3)) (.cells #[.int .u8 n, .slice (some ⟨w.heap.size, 0, none⟩) a.length a.length] 27)
  have hz : (w.alloc (.cells (a.map (Value.int .i64)).toArray 3)).heap.size = w.heap.size + 1 := by simp
  rw [hz] at N
  refine (checked_any _ [⟨c, a⟩] (by simp) (by simp; omega) _ (mods_arg hn N ((row_new w a h0).later hb1) (.inr ⟨_, _, _, rfl⟩))).mono ?_
  rintro e w' ⟨rfl, hb⟩
  exact ⟨by rw [hr], (((Below.refl _ _).alloc (Nat.le_refl _) _).alloc (by simp) _).trans (hb.mono (by simp; omega))⟩
/-! ### The last string -/
def lastS : ByteArray := ⟨#[38, 40, 48, 41, 94, 124, 33, 45, 91, 122, 40, 45, 49, 48, 48, 48, 48, 48, 48, 48, 48, 48, 41, 93, 91, 93]⟩
def lastL : List Md := [⟨38, [0]⟩, ⟨94, []⟩, ⟨124, []⟩, ⟨33, []⟩, ⟨45, []⟩, ⟨91, []⟩, ⟨122, [-1000000000]⟩, ⟨93, []⟩, ⟨91, []⟩, ⟨93, []⟩]
theorem last_prs : prs (lA lastS) = some lastL := by decide +kernel
theorem last_p : pC (lA lastS) = 0 ∧ pL (lA lastS) = lastL := pC_some (by decide) last_prs
theorem last_cnt : cntB lastL 91 = 2 := by decide +kernel
/-! ### Great words -/
def rep (n : Nat) (c : UInt8) : List Md := List.replicate n ⟨c, []⟩
theorem rep_len (n : Nat) (c : UInt8) : (rep n c).length = n := by simp [rep]
theorem rep_get {n : Nat} {c : UInt8} {i : Nat} (h : i < (rep n c).length) : (rep n c)[i] = ⟨c, []⟩ := by simp [rep]
theorem rep_args (n : Nat) (c : UInt8) : ∀ m ∈ rep n c, m.a.length ≤ 10 := fun m hm => by
  rw [(List.mem_replicate.1 hm).2]; simp
theorem rep_F {n : Nat} (h : n ≤ 2000) : chk (rep n 70) = 0 := by
  refine flat_chk (fun m hm => ?_) (by rw [rep_len]; exact h) fun m hm => ?_
  · rw [(List.mem_replicate.1 hm).2]; decide
  · rw [(List.mem_replicate.1 hm).2]; decide
theorem many_chk : chk (rep 2001 0) = 4 := chk_many (by rw [rep_len]; decide)
theorem half_two : jC (rep 1001 70) (rep 1001 70) = 4 := jC_3 (rep_F (by decide)) (rep_F (by decide)) (by rw [rep_len]; decide)
theorem half_full : jC (rep 1001 70) (rep 999 70) = 0 ∧ (jL (rep 1001 70) (rep 999 70)).length = 2000 := by
  have h := jC_4 (rep_F (n := 1001) (by decide)) (rep_F (n := 999) (by decide)) (by rw [rep_len, rep_len]; decide)
  exact ⟨h, by rw [jL_yes h, List.length_append, rep_len, rep_len]⟩
theorem mods_rep {w : World} {g n cap : Nat} {c : UInt8} {cur : Array Value} (hn : 0 < n) (h : w.heap[g]? = some (.cells cur 27 (0, 0))) (hc : ∀ i, i < n → cur[i * 2]? = some (.int .u8 c.toNat) ∧ cur[i * 2 + 1]? = some (.slice none 0 0)) : Mods w (.slice (some ⟨g, 0, none⟩) n cap) (rep n c) := by
  have := Mods.some (w := w) g 0 cap (rep n c) (by rw [rep_len]; exact hn) (lt_of_block h) (by
    intro i hi
    rw [rep_get hi]
    rw [rep_len] at hi
    obtain ⟨h1, h2⟩ := hc i hi
    refine ⟨by simp [World.cell?, h, h1], _, by simp [World.cell?, h, h2], .none _ _, .inl rfl⟩)
  rwa [rep_len] at this
end Go.Proofs.YtjjjopopalcokaaDoor
