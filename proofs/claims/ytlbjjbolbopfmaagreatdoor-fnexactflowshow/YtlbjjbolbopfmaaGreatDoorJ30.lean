import Derived.Test.YtlbjjbolbopfmaaGreatDoorJ25
namespace Go.Proofs.YtlbjjbolbopfmaaGreatDoor
set_option maxHeartbeats 8000000
set_option maxRecDepth 1000000
set_option linter.unusedVariables false
open Go.RowKit
theorem z_hr (k : Nat) (hk : k = 6 ∨ k = 8) (g off c : Nat) (a t b : ByteArray) (w : World) (hc : 3 ≤ c) (hz : ∀ s ∈ [a, t, b], s.size ≤ 4398046511104) (hi : StrsAt 0 w.heap.size w (some ⟨g, off, none⟩) [a, t, b]) (ht : z_cC t = true) (ha : z_an a = true) (hb : z_an b = false) :
  Calls Tryz.prog 171 #[.int .i64 k, .slice (some ⟨g, off, none⟩) 3 c] w (z_bg w k [a, t, b]) := by
 have HN : Hid (z_af (k : Int) [a, t, b] = none) := by
  have : z_af (k : Int) [a, t, b] = pTest [a, t, b] := by rcases hk with rfl | rfl <;> rfl
  show _ = _; rw [this, pTest]; exact if_neg (by rw [hb]; exact fun h => Bool.noConfusion h.2.2)
 have hh : hasB z_cw t = true := by rw [z_c9]; exact ht
 have za := hz a (by simp)
 have zb := hz b (by simp)
 obtain ⟨_, _, e0, hB, k0⟩ := hi.at 0 (by simp)
 cases e0
 have c0 : w.cell? ⟨g, off, none⟩ = some (.string a) := k0
 obtain ⟨_, _, e1, _, k1⟩ := hi.at 1 (by simp)
 cases e1
 have c1 : w.cell? ⟨g, off + 1, none⟩ = some (.string t) := k1
 obtain ⟨_, _, e2, _, k2⟩ := hi.at 2 (by simp)
 cases e2
 have c2 : w.cell? ⟨g, off + 2, none⟩ = some (.string b) := k2
 have hb0 : g < w.heap.size := hB.2
 clear hi hz k0 k1 k2
 rcases hk with rfl | rfl
 all_goals
  go_enter Tryz.func171, Tryz.ntmps171
  go_wp2_with fail
  first
   | go_region_with (first | (go_at_call 179; refine (z_cs _).mono ?_; rintro e w1 ⟨rfl, hb1, hs1⟩; obtain ⟨HB1, HS1, ⟨hz1, hz2⟩, ⟨r0, r1, r2, r3, r4⟩, ⟨s0, s1, s2, s3, s4⟩, f0, f1⟩ := z_by hb1 hs1; have d0 := (HB1.out.cell (p := ⟨g, off, none⟩) hb0).trans c0; have d1 := (HB1.out.cell (p := ⟨g, off + 1, none⟩) hb0).trans c1; have d2 := (HB1.out.cell (p := ⟨g, off + 2, none⟩) hb0).trans c2; clear hb1 hs1) | (go_at_call 141; refine (z_aF _ 4 z_cw t _ _ (by decide) HS1.out).mono ?_; rintro e w2 ⟨rfl, rfl⟩; rw [hh]) | (go_at_call_of 199 a; refine (z_aK a _ (by omega)).mono ?_; rintro e wx ⟨rfl, rfl⟩; rw [ha]) | (go_at_call_of 199 b; refine (z_aK b _ (by omega)).mono ?_; rintro e wx ⟨rfl, rfl⟩; rw [hb]))
   | fail
  all_goals
   go_wp2_with fail
   refine bodyPost_ret (v := .tuple #[.agg #[.int .i64 _, .string ⟨#[]⟩, .string ⟨#[]⟩, .slice none 0 0, .string ⟨#[]⟩], .bool false]) (by simp [results, Tryz.results171, go_sem, r0, r1, r2, r3, r4]; rfl) rfl ?_
   exact z_aH (args := []) (z_az HB1.out _ _ _ _ _) (Nat.le_refl _) (StrsAt.nil _ _ _ _) HN.out (Nat.zero_le _)
end Go.Proofs.YtlbjjbolbopfmaaGreatDoor
