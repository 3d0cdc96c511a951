/- What it says that a value reads as numbers in a world: a slice of numbers. -/
import Derived.Test.YtglibemklnamdaaMath
import Derived.WalkKit
namespace Go.Proofs.Ytglibemklnamdaa
open Go.RowKit

/-- The slice of address ao reads as zs, each of its cells in a block from A on and below B. -/
def IntsAt (A B : Nat) (w : World) (ao : Option Addr) (zs : List Int) : Prop :=
  ∀ k, k < zs.length → ∃ b off, ao = some ⟨b, off, none⟩ ∧ (A ≤ b ∧ b < B) ∧ w.cell? ⟨b, off + k, none⟩ = some (.int .i64 (zs.getD k 0))

theorem IntsAt.below {A B : Nat} {w w' : World} {ao : Option Addr} {zs : List Int} (h : IntsAt A B w ao zs) (hb : Below B w w') : IntsAt A B w' ao zs := by
  intro k hk
  obtain ⟨b, off, e, hB, hc⟩ := h k hk
  exact ⟨b, off, e, hB, (hb.cell (p := ⟨b, off + k, none⟩) hB.2).trans hc⟩

theorem IntsAt.mono {A A' B B' : Nat} {w : World} {ao : Option Addr} {zs : List Int} (h : IntsAt A B w ao zs) (ha : A' ≤ A) (hb : B ≤ B') : IntsAt A' B' w ao zs := by
  intro k hk
  obtain ⟨b, off, e, hB, hc⟩ := h k hk
  exact ⟨b, off, e, ⟨Nat.le_trans ha hB.1, Nat.lt_of_lt_of_le hB.2 hb⟩, hc⟩

/-- What reads in a world reads in a later one. -/
theorem IntsAt.later {A : Nat} {w w' : World} {ao : Option Addr} {zs : List Int} (h : IntsAt A w.heap.size w ao zs) (hb : Below w.heap.size w w') : IntsAt A w'.heap.size w' ao zs :=
  (h.below hb).mono (Nat.le_refl _) hb.size

/-- A store elsewhere. -/
theorem IntsAt.setCell {A B : Nat} {w : World} {ao : Option Addr} {zs : List Int} (h : IntsAt A B w ao zs) {p : Addr} (hp : p.block < A ∨ B ≤ p.block) (u : Value) : IntsAt A B (w.setCell p u) ao zs := by
  intro k hk
  obtain ⟨b, off, e, hB, hc⟩ := h k hk
  refine ⟨b, off, e, hB, ?_⟩
  rw [World.cell?_of_block (w := w) (Below.heap_setCell w p u b (by omega))]
  exact hc
end Go.Proofs.Ytglibemklnamdaa
