/-
  Words of modules in memory.
-/
import Derived.Test.YtkjjehnfibfngaaWordRead
import Derived.Test.YtkjjehnfibfngaaWordInts
namespace Go.Proofs.Ytkjjehnfibfngaa
open Go.RowKit
open WM
set_option linter.unusedVariables false
set_option linter.unusedSimpArgs false

/-- A slice that is nil, or lies somewhere. -/
def NilOr (v : Value) : Prop := v = .slice none 0 0 ∨ ∃ ad n c, v = .slice (some ad) n c
/-- A slice's modules, which may be none. -/
inductive Mods (w : World) : Value → List Md → Prop
  | none (p : Option Addr) (cap : Nat) : Mods w (.slice p 0 cap) []
  | some (b off cap : Nat) (l : List Md) (hpos : 0 < l.length) (hb : b < w.heap.size)
      (h : ∀ i, (h : i < l.length) → w.cell? ⟨b, off + i * 2, Option.none⟩ = Option.some (.int .u8 l[i].c.toNat) ∧
        ∃ v, w.cell? ⟨b, off + i * 2 + 1, Option.none⟩ = Option.some v ∧ Ints w v l[i].a ∧ NilOr v) :
      Mods w (.slice (Option.some ⟨b, off, Option.none⟩) l.length cap) l
theorem Mods.later {w w1 : World} {v : Value} {l : List Md} (h : Mods w v l) (hb : Below w.heap.size w w1) : Mods w1 v l := by
  cases h with
  | none p cap => exact .none p cap
  | some b off cap _ hpos hlt hx =>
    refine .some b off cap l hpos (Nat.lt_of_lt_of_le hlt hb.size) fun i hi => ?_
    obtain ⟨h1, v, h2, h3, h4⟩ := hx i hi
    exact ⟨(hb.cell (p := ⟨b, off + i * 2, Option.none⟩) hlt).trans h1, v, (hb.cell (p := ⟨b, off + i * 2 + 1, Option.none⟩) hlt).trans h2, h3.later hb, h4⟩
theorem Mods.slice {w : World} {v : Value} {l : List Md} (h : Mods w v l) : ∃ p cap, v = .slice p l.length cap := by
  cases h with
  | none p cap => exact ⟨p, cap, rfl⟩
  | some b off cap _ _ _ _ => exact ⟨_, cap, rfl⟩
theorem Mods.at {w : World} {v : Value} {l : List Md} (h : Mods w v l) {k : Nat} (hk : k < l.length) :
    ∃ b off cap p c, v = .slice (Option.some ⟨b, off, Option.none⟩) l.length cap ∧ w.cell? ⟨b, off + k * 2, Option.none⟩ = Option.some (.int .u8 l[k].c.toNat) ∧
      w.cell? ⟨b, off + k * 2 + 1, Option.none⟩ = Option.some (.slice p l[k].a.length c) ∧ Ints w (.slice p l[k].a.length c) l[k].a ∧ b < w.heap.size := by
  cases h with
  | none p cap => simp at hk
  | some b off cap _ _ hb hx =>
    obtain ⟨h1, v, h2, h3, _⟩ := hx k hk
    obtain ⟨p, c, rfl⟩ := h3.slice
    exact ⟨b, off, cap, p, c, rfl, h1, h2, h3, hb⟩
theorem Mods.at2 {w : World} {v : Value} {l : List Md} (h : Mods w v l) {k : Nat} (hk : k < l.length) :
    ∃ b off cap p c, v = .slice (Option.some ⟨b, off, Option.none⟩) l.length cap ∧ w.cell? ⟨b, off + k * 2, Option.none⟩ = Option.some (.int .u8 l[k].c.toNat) ∧
      w.cell? ⟨b, off + k * 2 + 1, Option.none⟩ = Option.some (.slice p l[k].a.length c) ∧ Ints w (.slice p l[k].a.length c) l[k].a ∧ b < w.heap.size ∧ (p = Option.none → l[k].a.length = 0 ∧ c = 0) := by
  cases h with
  | none p cap => simp at hk
  | some b off cap _ _ hb hx =>
    obtain ⟨h1, v, h2, h3, h4⟩ := hx k hk
    obtain ⟨p, c, rfl⟩ := h3.slice
    refine ⟨b, off, cap, p, c, rfl, h1, h2, h3, hb, fun hp => ?_⟩
    rcases h4 with h | ⟨ad, n, c', h⟩
    · simp only [Value.slice.injEq] at h; exact ⟨h.2.1, h.2.2⟩
    · rw [hp] at h; simp at h
end Go.Proofs.Ytkjjehnfibfngaa
