/- The walk of the law. -/
import Derived.Test.YtglibemklnamdaaWalks3
import Derived.Deep.RegionHeld3
namespace Go.Proofs.Ytglibemklnamdaa
open Go.RowKit

set_option maxHeartbeats 1000000 in
theorem law_any (id : Int) (key name : ByteArray) (ao : Option Addr) (cap : Nat) (zs : List Int) (w : World)
    (hk : key.size ≤ 9223372036854775807) (hn : name.size ≤ 9223372036854775807) (hl : zs.length ≤ 9223372036854775807) (hi : IntsAt 0 w.heap.size w ao zs) :
    Calls Try.prog 3 #[.agg #[.int .i64 id, .string key, .string name, .slice ao zs.length cap]] w fun e w' => e = .returned (.bool true) ∧ Below w.heap.size w w' := by
  have HI : Hid (IntsAt 0 w.heap.size w ao zs) := hi
  clear hi
  go_enter Try.func3, Try.ntmps3
  go_wp2_with fail
  refine (szRunAsk_any _ _ _ _ _ _ _ hk hn hl).mono ?_
  rintro e w1 ⟨r, rfl, hr, hb⟩
  have c0 : w1.cell? ⟨w.heap.size, 0, none⟩ = some (.int .i64 id) := by rw [hb.cell (by simp)]; simp [go_sem]
  have c1 : w1.cell? ⟨w.heap.size, 1, none⟩ = some (.string key) := by rw [hb.cell (by simp)]; simp [go_sem]
  have c2 : w1.cell? ⟨w.heap.size, 2, none⟩ = some (.string name) := by rw [hb.cell (by simp)]; simp [go_sem]
  have c3 : w1.cell? ⟨w.heap.size, 3, none⟩ = some (.slice ao zs.length cap) := by rw [hb.cell (by simp)]; simp [go_sem]
  have hz1 : w.heap.size < w1.heap.size := by have := hb.size; simp at this; omega
  have HB : Hid (Below w.heap.size w w1) := ((Below.refl _ _).alloc (Nat.le_refl _) _).trans (hb.mono (by simp))
  clear hb
  rcases hr with hneg | ⟨hk1, hn1, hl1, hr0⟩
  · go_wp2
    go_ret
    exact ⟨rfl, HB.out⟩
  · go_wp2_with fail
    refine (toRunAsk_any _ _ _ _ _ _ _ hl1 (HI.out.later HB.out)).mono ?_
    rintro e w2 ⟨bo, cap2, rfl, hb2, hi2⟩
    go_wp2_with fail
    refine (specRunAnswer_any _ _ _ _ _ _ _ hk hn hl (hi2.mono (Nat.zero_le _) (Nat.le_refl _))).mono ?_
    rintro e w3 ⟨rfl, hb3⟩
    have H3 : Below w1.heap.size w1 w3 := hb2.trans (hb3.mono hb2.size)
    have HB3 : Hid (Below w.heap.size w w3) := HB.out.trans (H3.mono (by omega))
    have hz3 : w.heap.size < w3.heap.size := by have := H3.size; omega
    obtain ⟨hc3, hf3⟩ := bcell H3
    rw [← hc3 _ _ hz1] at c0 c1 c2 c3
    clear hb2 hi2 hb3 hc3 hf3
    have H3' : Hid (Below w1.heap.size w1 w3) := H3
    clear H3
    go_wp2_with fail
    refine (toRunAsk_any _ _ _ _ _ _ _ hl1 (HI.out.later HB3.out)).mono ?_
    rintro e w4 ⟨xo, cap4, rfl, hb4, hi4⟩
    obtain ⟨hc4, hf4⟩ := bcell hb4
    rw [← hc4 _ _ hz3] at c0 c1 c2 c3
    have HB4 : Hid (Below w.heap.size w w4) := HB3.out.trans (hb4.mono (by omega))
    have hz4 : w.heap.size < w4.heap.size := by have := hb4.size; omega
    have HI4 : Hid (IntsAt 0 w4.heap.size w4 xo zs) := hi4.mono (Nat.zero_le _) (Nat.le_refl _)
    clear hb4 hi4 hc4 hf4
    go_wp2_with fail
    refine (implRunAnswer_any _ _ _ _ _ _ _ hk1 hn1 hl1 (HI4.out.later ((Below.refl _ _).alloc (Nat.le_refl _) _))).mono ?_
    rintro e w5 ⟨rfl, hb5⟩
    have hz5 : w4.heap.size < w5.heap.size := by have := hb5.size; simp at this; omega
    have d0 : w5.cell? ⟨w4.heap.size, 0, none⟩ = some (.int .i64 id) := by rw [hb5.cell (by simp)]; simp [go_sem]
    have d1 : w5.cell? ⟨w4.heap.size, 1, none⟩ = some (.string key) := by rw [hb5.cell (by simp)]; simp [go_sem]
    have d2 : w5.cell? ⟨w4.heap.size, 2, none⟩ = some (.string name) := by rw [hb5.cell (by simp)]; simp [go_sem]
    have d3 : w5.cell? ⟨w4.heap.size, 3, none⟩ = some (.slice xo zs.length cap4) := by rw [hb5.cell (by simp)]; simp [go_sem]
    have H45 : Below w4.heap.size w4 w5 := ((Below.refl _ _).alloc (Nat.le_refl _) _).trans (hb5.mono (by simp))
    rw [← H45.cell (p := ⟨w.heap.size, 0, none⟩) hz4] at c0
    rw [← H45.cell (p := ⟨w.heap.size, 1, none⟩) hz4] at c1
    rw [← H45.cell (p := ⟨w.heap.size, 2, none⟩) hz4] at c2
    rw [← H45.cell (p := ⟨w.heap.size, 3, none⟩) hz4] at c3
    have HB5 : Hid (Below w.heap.size w w5) := HB4.out.trans (H45.mono (by omega))
    have HI5 : Hid (IntsAt 0 w5.heap.size w5 xo zs) := HI4.out.later H45
    have HA5 : Hid (IntsAt 0 w5.heap.size w5 ao zs) := HI.out.later HB5.out
    have hz6 : w.heap.size < w5.heap.size := by omega
    clear hb5 H45
    have KS : Hid (∀ w', Below w5.heap.size w5 w' → (w'.cell? ⟨w.heap.size, 0, none⟩ = some (.int .i64 id) ∧ w'.cell? ⟨w.heap.size, 1, none⟩ = some (.string key) ∧ w'.cell? ⟨w.heap.size, 2, none⟩ = some (.string name) ∧ w'.cell? ⟨w.heap.size, 3, none⟩ = some (.slice ao zs.length cap) ∧ w'.cell? ⟨w4.heap.size, 0, none⟩ = some (.int .i64 id) ∧ w'.cell? ⟨w4.heap.size, 1, none⟩ = some (.string key) ∧ w'.cell? ⟨w4.heap.size, 2, none⟩ = some (.string name) ∧ w'.cell? ⟨w4.heap.size, 3, none⟩ = some (.slice xo zs.length cap4)) ∧ Hid (Below w5.heap.size w5 w')) := fun w' hb => by
      refine ⟨⟨?_, ?_, ?_, ?_, ?_, ?_, ?_, ?_⟩, hb⟩ <;> rw [hb.cell (by first | exact hz6 | exact hz5)] <;> assumption
    go_wp2_with fail
    go_region_held3 (fun w' => (w'.cell? ⟨w.heap.size, 0, none⟩ = some (.int .i64 id) ∧ w'.cell? ⟨w.heap.size, 1, none⟩ = some (.string key) ∧ w'.cell? ⟨w.heap.size, 2, none⟩ = some (.string name) ∧ w'.cell? ⟨w.heap.size, 3, none⟩ = some (.slice ao zs.length cap) ∧ w'.cell? ⟨w4.heap.size, 0, none⟩ = some (.int .i64 id) ∧ w'.cell? ⟨w4.heap.size, 1, none⟩ = some (.string key) ∧ w'.cell? ⟨w4.heap.size, 2, none⟩ = some (.string name) ∧ w'.cell? ⟨w4.heap.size, 3, none⟩ = some (.slice xo zs.length cap4)) ∧ Hid (Below w5.heap.size w5 w'))
      (first | assumption | exact KS.out _ (Below.refl _ _).drew | exact KS.out _ (Hid.out (by assumption)))
      (first
        | (go_at_call 6; refine (toRunAsk_any _ _ _ _ _ _ _ hl1 (HA5.out.later (Below.refl _ _).drew)).mono ?_; rintro e w6 ⟨yo, cap6, rfl, hb6, hi6⟩; have H56 : Hid (Below w5.heap.size w5 w6) := (Below.refl _ _).drew.trans hb6; have HI6 : Hid (IntsAt 0 w6.heap.size w6 yo zs) := hi6.mono (Nat.zero_le _) (Nat.le_refl _); clear hb6 hi6)
        | (go_at_call 8; refine (eqRunAsk_any _ _ _ _ _ _ _ _ _ hl1 (HI5.out.later (Hid.out (by assumption))) (Hid.out (by assumption))).mono ?_; rintro e w7 ⟨rfl, hb7⟩; have H57 : Hid (Below w5.heap.size w5 w7) := (Below.trans (Hid.out (by assumption)) (hb7.mono (Below.size (Hid.out (by assumption))))); clear hb7))
    go_wp2
    go_ret
    exact ⟨rfl, HB5.out.trans (H57.out.mono (by omega))⟩
end Go.Proofs.Ytglibemklnamdaa
