import Derived.Test.YtlbjjbolbopfmaaGreatDoorJ00
import Derived.Test.YtlbjjbolbopfmaaGreatDoorJ37
import Derived.Deep.RegionHeld3
namespace Go.Proofs.YtlbjjbolbopfmaaGreatDoor
set_option maxHeartbeats 60000000
set_option maxRecDepth 1000000
set_option linter.unusedVariables false
section
open Go.RowKit
set_option linter.unusedSimpArgs false
theorem z_hy (g off c : Nat) (a b x : ByteArray)  (w : World) (hc : 3 ≤ c) (hz : ∀ s ∈ [a, b, x], s.size ≤ 4398046511104) (hi : StrsAt 0 w.heap.size w (some ⟨g, off, none⟩) ([a, b, x])) (ha : z_ac a = true) (hi2 : (b.toList == [105, 115]) = true) (ho : allB z_an [x] = false) :
  Calls Tryz.prog 171 #[.int .i64 (2 : Nat), .slice (some ⟨g, off, none⟩) (3) c] w (z_bg w (2 : Nat) ([a, b, x])) := by
 have HN : Hid (z_af ((2 : Nat) : Int) ([a, b, x]) = none) := by show pLet ([a, b, x]) = _; rw [pLet]; exact if_neg (by rw [ho]; exact fun h => Bool.noConfusion h.2.1)
 have za := hz a (by simp)
 obtain ⟨_, _, e0, hB, k0⟩ := hi.at 0 (by simp)
 cases e0
 have c0 : w.cell? ⟨g, off, none⟩ = some (.string a) := k0
 obtain ⟨_, _, e1, _, k1⟩ := hi.at 1 (by simp)
 cases e1
 have c1 : w.cell? ⟨g, off + 1, none⟩ = some (.string b) := k1
 have hb0 : g < w.heap.size := hB.2
 have hh := z_ka hi2
 have hi3 : (b.toList != [105, 115]) = false := by rw [bne, hi2]; rfl
 have HZ : Hid (∀ s ∈ [x], s.size ≤ 9223372036854775807) := fun s hs => by have := hz s (by simp at hs ⊢; simp [hs]); omega
 have HD : Hid (StrsAt 0 w.heap.size w (some ⟨g, off + 2, none⟩) [x]) := hi.drop 2
 have hc2 : ¬ c = 2 := by omega
 clear hi hz k0 k1
 go_enter Tryz.func171, Tryz.ntmps171
 go_wp2_with fail
 refine wp_region_held_drew (S := (fun w' => w'.cell? ⟨g, off, none⟩ = some (.string a) ∧ w'.cell? ⟨g, off + 1, none⟩ = some (.string b))) (by kernel_rfl) ?_ (fun hHeld => ?_)
 ·try dsimp only
  first | assumption | (go_keep; done)
 refine tkL 0 ?_
 try simp only [Act.put, nA, nB, nC, nD, nE, nF]
 refine tkL 1 ?_
 try simp only [Act.put, nA, nB, nC, nD, nE, nF]
 refine tkL 2 ?_
 try simp only [Act.put, nA, nB, nC, nD, nE, nF]
 refine tkL 3 ?_
 try simp only [Act.put, nA, nB, nC, nD, nE, nF]
 refine tkL 4 ?_
 try simp only [Act.put, nA, nB, nC, nD, nE, nF]
 refine tkL 5 ?_
 try simp only [Act.put, nA, nB, nC, nD, nE, nF]
 refine wpAnyH_ready (rs := [6]) (by kernel_rfl) (by simp) ?_
 refine AllReadyH.cons rfl (fun K hK => ?_) AllReadyH.nil
 go_simp
 go_wp2_with (go_at_call 140; refine (z_a a _ (by omega)).mono ?_; rintro e wx ⟨rfl, rfl⟩; rw [ha])
 refine hK.out _ _ ?_ (fun hHeld => ?_)
 ·try dsimp only
  first | assumption | (go_keep; done)
 clear hK K
 try simp only [Act.put, nA, nB, nC, nD, nE, nF]
 refine tkL 7 ?_
 try simp only [Act.put, nA, nB, nC, nD, nE, nF]
 refine tkL 8 ?_
 try simp only [Act.put, nA, nB, nC, nD, nE, nF]
 refine tkL 9 ?_
 try simp only [Act.put, nA, nB, nC, nD, nE, nF]
 refine tkL 11 ?_
 try simp only [Act.put, nA, nB, nC, nD, nE, nF]
 refine tkL 12 ?_
 try simp only [Act.put, nA, nB, nC, nD, nE, nF]
 refine tkL 13 ?_
 try simp only [Act.put, nA, nB, nC, nD, nE, nF]
 refine wpAnyH_ready (rs := [10]) (by kernel_rfl) (by simp) ?_
 refine AllReadyH.cons rfl (fun K hK => ?_) AllReadyH.nil
 go_simp
 go_wp2_with (go_at_call 196; refine (z_ca _).mono ?_; rintro e w1 ⟨rfl, hb1, hs1⟩; obtain ⟨HB1, HS1, ⟨hz1, hz2⟩, ⟨r0, r1, r2, r3, r4⟩, ⟨s0, s1, s2, s3, s4⟩, f0, f1⟩ := z_by hb1 hs1; have d0 := (HB1.out.cell (p := ⟨g, off, none⟩) hb0).trans c0; have d1 := (HB1.out.cell (p := ⟨g, off + 1, none⟩) hb0).trans c1; clear hb1 hs1)
 refine hK.out _ _ ?_ (fun hHeld => ?_)
 ·try dsimp only
  first | assumption | exact ⟨d0, d1⟩ | (go_keep; done)
 clear hK K
 try simp only [Act.put, nA, nB, nC, nD, nE, nF]
 refine wpAnyH_ready (rs := [14]) (by kernel_rfl) (by simp) ?_
 refine AllReadyH.cons rfl (fun K hK => ?_) AllReadyH.nil
 go_simp
 go_wp2_with (go_at_call 141; refine (z_aF _ 4 opsS b _ _ (by decide) HS1.out).mono ?_; rintro e w2 ⟨rfl, rfl⟩; rw [hh])
 refine hK.out _ _ ?_ (fun hHeld => ?_)
 ·try dsimp only
  first | assumption | exact ⟨d0, d1⟩ | (go_keep; done)
 clear hK K
 try simp only [Act.put, nA, nB, nC, nD, nE, nF]
 refine tkL 15 ?_
 try simp only [Act.put, nA, nB, nC, nD, nE, nF]
 refine tkL 16 ?_
 try simp only [Act.put, nA, nB, nC, nD, nE, nF]
 refine tkL 17 ?_
 try simp only [Act.put, nA, nB, nC, nD, nE, nF]
 refine tkL 18 ?_
 try simp only [Act.put, nA, nB, nC, nD, nE, nF]
 refine tkL 19 ?_
 try simp only [Act.put, nA, nB, nC, nD, nE, nF]
 refine tkL 20 ?_
 try simp only [Act.put, nA, nB, nC, nD, nE, nF]
 refine tkL 21 ?_
 try simp only [Act.put, nA, nB, nC, nD, nE, nF]
 refine tkL 22 ?_
 try simp only [Act.put, nA, nB, nC, nD, nE, nF]
 refine tkL 23 ?_
 try simp only [Act.put, nA, nB, nC, nD, nE, nF]
 refine tkL 24 ?_
 try simp only [Act.put, nA, nB, nC, nD, nE, nF]
 refine tkL 25 ?_
 try simp only [Act.put, nA, nB, nC, nD, nE, nF]
 refine tkL 26 ?_
 try simp only [Act.put, nA, nB, nC, nD, nE, nF]
 refine tkL 27 ?_
 try simp only [Act.put, nA, nB, nC, nD, nE, nF]
 refine tkL 28 ?_
 try simp only [Act.put, nA, nB, nC, nD, nE, nF]
 refine tkL 29 ?_
 try simp only [Act.put, nA, nB, nC, nD, nE, nF]
 refine tkL 30 ?_
 try simp only [Act.put, nA, nB, nC, nD, nE, nF]
 refine tkR 31 ?_
 try simp only [Act.put, nA, nB, nC, nD, nE, nF]
 refine tkR 32 ?_
 try simp only [Act.put, nA, nB, nC, nD, nE, nF]
 refine tkR 33 ?_
 try simp only [Act.put, nA, nB, nC, nD, nE, nF]
 refine tkR 34 ?_
 try simp only [Act.put, nA, nB, nC, nD, nE, nF]
 refine tkL 35 ?_
 try simp only [Act.put, nA, nB, nC, nD, nE, nF]
 refine tkL 36 ?_
 try simp only [Act.put, nA, nB, nC, nD, nE, nF]
 refine tkL 37 ?_
 try simp only [Act.put, nA, nB, nC, nD, nE, nF]
 refine tkL 38 ?_
 try simp only [Act.put, nA, nB, nC, nD, nE, nF]
 refine tkL 39 ?_
 try simp only [Act.put, nA, nB, nC, nD, nE, nF]
 refine wpAnyH_ready (rs := [40]) (by kernel_rfl) (by simp) ?_
 refine AllReadyH.cons rfl (fun K hK => ?_) AllReadyH.nil
 go_simp
 go_wp2_with (go_at_call 197; refine (z_aV (some ⟨g, off + 2, none⟩) (c - 2) [x] w.heap.size _ (by simp) HZ.out (HD.out.below HB1.out)).mono ?_; rintro e wx ⟨rfl, rfl⟩; rw [ho])
 refine hK.out _ _ ?_ (fun hHeld => ?_)
 ·try dsimp only
  first | assumption | exact ⟨d0, d1⟩ | (go_keep; done)
 clear hK K
 try simp only [Act.put, nA, nB, nC, nD, nE, nF]
 refine tkL 41 ?_
 try simp only [Act.put, nA, nB, nC, nD, nE, nF]
 refine tkL 42 ?_
 try simp only [Act.put, nA, nB, nC, nD, nE, nF]
 refine wpAnyH_done (by kernel_rfl) ?_ _
 all_goals
  go_wp2_with fail
  refine bodyPost_ret (v := .tuple #[.agg #[.int .i64 _, .string ⟨#[]⟩, .string ⟨#[]⟩, .slice none 0 0, .string ⟨#[]⟩], .bool false]) (by simp [results, Tryz.results171, go_sem, r0, r1, r2, r3, r4]; rfl) rfl ?_
  exact z_aH (args := []) (z_az HB1.out _ _ _ _ _) (Nat.le_refl _) (StrsAt.nil _ _ _ _) HN.out (Nat.zero_le _)
end
section
open Go.RowKit
set_option linter.unusedSimpArgs false
theorem z_g3 (g off c : Nat) (a b x : ByteArray)  (w : World) (hc : 3 ≤ c) (hz : ∀ s ∈ [a, b, x], s.size ≤ 4398046511104) (hi : StrsAt 0 w.heap.size w (some ⟨g, off, none⟩) ([a, b, x])) (ha : z_ac a = true) (hi2 : (b.toList == [105, 115]) = true) (ho : allB z_an [x] = true) :
  Calls Tryz.prog 171 #[.int .i64 (2 : Nat), .slice (some ⟨g, off, none⟩) (3) c] w (z_bg w (2 : Nat) ([a, b, x])) := by
 have HN : Hid (z_af ((2 : Nat) : Int) [a, b, x] = some ⟨a, b, [x], eS⟩) := by show pLet [a, b, x] = _; rw [pLet]; exact if_pos ⟨ha, ho, by rw [z_jj hi2]; rfl⟩
 have za := hz a (by simp)
 obtain ⟨_, _, e0, hB, k0⟩ := hi.at 0 (by simp)
 cases e0
 have c0 : w.cell? ⟨g, off, none⟩ = some (.string a) := k0
 obtain ⟨_, _, e1, _, k1⟩ := hi.at 1 (by simp)
 cases e1
 have c1 : w.cell? ⟨g, off + 1, none⟩ = some (.string b) := k1
 have hb0 : g < w.heap.size := hB.2
 have hh := z_ka hi2
 have hi3 : (b.toList != [105, 115]) = false := by rw [bne, hi2]; rfl
 have HZ : Hid (∀ s ∈ [x], s.size ≤ 9223372036854775807) := fun s hs => by have := hz s (by simp at hs ⊢; simp [hs]); omega
 have HD : Hid (StrsAt 0 w.heap.size w (some ⟨g, off + 2, none⟩) [x]) := hi.drop 2
 have hc2 : ¬ c = 2 := by omega
 clear hi hz k0 k1
 go_enter Tryz.func171, Tryz.ntmps171
 go_wp2_with fail
 refine wp_region_held_drew (S := (fun w' => w'.cell? ⟨g, off, none⟩ = some (.string a) ∧ w'.cell? ⟨g, off + 1, none⟩ = some (.string b))) (by kernel_rfl) ?_ (fun hHeld => ?_)
 ·try dsimp only
  first | assumption | (go_keep; done)
 refine tkL 0 ?_
 try simp only [Act.put, nA, nB, nC, nD, nE, nF]
 refine tkL 1 ?_
 try simp only [Act.put, nA, nB, nC, nD, nE, nF]
 refine tkL 2 ?_
 try simp only [Act.put, nA, nB, nC, nD, nE, nF]
 refine tkL 3 ?_
 try simp only [Act.put, nA, nB, nC, nD, nE, nF]
 refine tkL 4 ?_
 try simp only [Act.put, nA, nB, nC, nD, nE, nF]
 refine tkL 5 ?_
 try simp only [Act.put, nA, nB, nC, nD, nE, nF]
 refine wpAnyH_ready (rs := [6]) (by kernel_rfl) (by simp) ?_
 refine AllReadyH.cons rfl (fun K hK => ?_) AllReadyH.nil
 go_simp
 go_wp2_with (go_at_call 140; refine (z_a a _ (by omega)).mono ?_; rintro e wx ⟨rfl, rfl⟩; rw [ha])
 refine hK.out _ _ ?_ (fun hHeld => ?_)
 ·try dsimp only
  first | assumption | (go_keep; done)
 clear hK K
 try simp only [Act.put, nA, nB, nC, nD, nE, nF]
 refine tkL 7 ?_
 try simp only [Act.put, nA, nB, nC, nD, nE, nF]
 refine tkL 8 ?_
 try simp only [Act.put, nA, nB, nC, nD, nE, nF]
 refine tkL 9 ?_
 try simp only [Act.put, nA, nB, nC, nD, nE, nF]
 refine tkL 11 ?_
 try simp only [Act.put, nA, nB, nC, nD, nE, nF]
 refine tkL 12 ?_
 try simp only [Act.put, nA, nB, nC, nD, nE, nF]
 refine tkL 13 ?_
 try simp only [Act.put, nA, nB, nC, nD, nE, nF]
 refine wpAnyH_ready (rs := [10]) (by kernel_rfl) (by simp) ?_
 refine AllReadyH.cons rfl (fun K hK => ?_) AllReadyH.nil
 go_simp
 go_wp2_with (go_at_call 196; refine (z_ca _).mono ?_; rintro e w1 ⟨rfl, hb1, hs1⟩; obtain ⟨HB1, HS1, ⟨hz1, hz2⟩, ⟨r0, r1, r2, r3, r4⟩, ⟨s0, s1, s2, s3, s4⟩, f0, f1⟩ := z_by hb1 hs1; have d0 := (HB1.out.cell (p := ⟨g, off, none⟩) hb0).trans c0; have d1 := (HB1.out.cell (p := ⟨g, off + 1, none⟩) hb0).trans c1; clear hb1 hs1)
 refine hK.out _ _ ?_ (fun hHeld => ?_)
 ·try dsimp only
  first | assumption | exact ⟨d0, d1⟩ | (go_keep; done)
 clear hK K
 try simp only [Act.put, nA, nB, nC, nD, nE, nF]
 refine wpAnyH_ready (rs := [14]) (by kernel_rfl) (by simp) ?_
 refine AllReadyH.cons rfl (fun K hK => ?_) AllReadyH.nil
 go_simp
 go_wp2_with (go_at_call 141; refine (z_aF _ 4 opsS b _ _ (by decide) HS1.out).mono ?_; rintro e w2 ⟨rfl, rfl⟩; rw [hh])
 refine hK.out _ _ ?_ (fun hHeld => ?_)
 ·try dsimp only
  first | assumption | exact ⟨d0, d1⟩ | (go_keep; done)
 clear hK K
 try simp only [Act.put, nA, nB, nC, nD, nE, nF]
 refine tkL 15 ?_
 try simp only [Act.put, nA, nB, nC, nD, nE, nF]
 refine tkL 16 ?_
 try simp only [Act.put, nA, nB, nC, nD, nE, nF]
 refine tkL 17 ?_
 try simp only [Act.put, nA, nB, nC, nD, nE, nF]
 refine tkL 18 ?_
 try simp only [Act.put, nA, nB, nC, nD, nE, nF]
 refine tkL 19 ?_
 try simp only [Act.put, nA, nB, nC, nD, nE, nF]
 refine tkL 20 ?_
 try simp only [Act.put, nA, nB, nC, nD, nE, nF]
 refine tkL 21 ?_
 try simp only [Act.put, nA, nB, nC, nD, nE, nF]
 refine tkL 22 ?_
 try simp only [Act.put, nA, nB, nC, nD, nE, nF]
 refine tkL 23 ?_
 try simp only [Act.put, nA, nB, nC, nD, nE, nF]
 refine tkL 24 ?_
 try simp only [Act.put, nA, nB, nC, nD, nE, nF]
 refine tkL 25 ?_
 try simp only [Act.put, nA, nB, nC, nD, nE, nF]
 refine tkL 26 ?_
 try simp only [Act.put, nA, nB, nC, nD, nE, nF]
 refine tkL 27 ?_
 try simp only [Act.put, nA, nB, nC, nD, nE, nF]
 refine tkL 28 ?_
 try simp only [Act.put, nA, nB, nC, nD, nE, nF]
 refine tkL 29 ?_
 try simp only [Act.put, nA, nB, nC, nD, nE, nF]
 refine tkL 30 ?_
 try simp only [Act.put, nA, nB, nC, nD, nE, nF]
 refine tkR 31 ?_
 try simp only [Act.put, nA, nB, nC, nD, nE, nF]
 refine tkR 32 ?_
 try simp only [Act.put, nA, nB, nC, nD, nE, nF]
 refine tkR 33 ?_
 try simp only [Act.put, nA, nB, nC, nD, nE, nF]
 refine tkR 34 ?_
 try simp only [Act.put, nA, nB, nC, nD, nE, nF]
 refine tkL 35 ?_
 try simp only [Act.put, nA, nB, nC, nD, nE, nF]
 refine tkL 36 ?_
 try simp only [Act.put, nA, nB, nC, nD, nE, nF]
 refine tkL 37 ?_
 try simp only [Act.put, nA, nB, nC, nD, nE, nF]
 refine tkL 38 ?_
 try simp only [Act.put, nA, nB, nC, nD, nE, nF]
 refine tkL 39 ?_
 try simp only [Act.put, nA, nB, nC, nD, nE, nF]
 refine wpAnyH_ready (rs := [40]) (by kernel_rfl) (by simp) ?_
 refine AllReadyH.cons rfl (fun K hK => ?_) AllReadyH.nil
 go_simp
 go_wp2_with (go_at_call 197; refine (z_aV (some ⟨g, off + 2, none⟩) (c - 2) [x] w.heap.size _ (by simp) HZ.out (HD.out.below HB1.out)).mono ?_; rintro e wx ⟨rfl, rfl⟩; rw [ho])
 refine hK.out _ _ ?_ (fun hHeld => ?_)
 ·try dsimp only
  first | assumption | exact ⟨d0, d1⟩ | (go_keep; done)
 clear hK K
 try simp only [Act.put, nA, nB, nC, nD, nE, nF]
 refine tkL 41 ?_
 try simp only [Act.put, nA, nB, nC, nD, nE, nF]
 refine tkL 42 ?_
 try simp only [Act.put, nA, nB, nC, nD, nE, nF]
 refine wpAnyH_done (by kernel_rfl) ?_ _
 all_goals
  go_wp2_with fail
  refine bodyPost_ret (v := .tuple #[.agg #[.int .i64 _, .string a, .string b, .slice (some ⟨g, off + 2, none⟩) 1 (c - 2), .string ⟨#[]⟩], .bool true]) (by simp [results, Tryz.results171, go_sem, r0, r1, r2, r3, r4]; rfl) rfl ?_
  have hX : Below w.heap.size w (((wx.setCell ⟨w.heap.size + 1, 1, none⟩ (.string a)).setCell ⟨w.heap.size + 1, 2, none⟩ (.string b)).setCell ⟨w.heap.size + 1, 3, none⟩ (.slice (some ⟨g, off + 2, none⟩) 1 (c - 2))) := ((HB1.out.setCell (p := ⟨w.heap.size + 1, 1, none⟩) (Nat.le_succ w.heap.size) _).setCell (p := ⟨w.heap.size + 1, 2, none⟩) (Nat.le_succ w.heap.size) _).setCell (p := ⟨w.heap.size + 1, 3, none⟩) (Nat.le_succ w.heap.size) _
  refine z_bG (args := [x]) ?_ (by simp; omega) ?_ HN.out (by simp)
  ·exact z_az hX _ _ _ _ _
  ·exact (HD.out.below (z_az hX _ _ _ _ _)).mono (Nat.le_refl _) (z_az hX _ _ _ _ _).size
end
end Go.Proofs.YtlbjjbolbopfmaaGreatDoor
