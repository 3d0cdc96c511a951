import Derived.Test.YtlbjjbolbopfmaaGreatDoorJ00
import Derived.Test.YtlbjjbolbopfmaaGreatDoorJ37
import Derived.Deep.RegionHeld3
namespace Go.Proofs.YtlbjjbolbopfmaaGreatDoor
set_option maxHeartbeats 60000000
set_option maxRecDepth 1000000
set_option linter.unusedVariables false
section
open Go.RowKit
set_option linter.unusedSimpArgs false
theorem z_hx (g off c : Nat) (a b x : ByteArray) (r : List ByteArray) (hl : r.length ≤ 4398046511000) (w : World) (hc : r.length + 3 ≤ c) (hz : ∀ s ∈ a :: b :: x :: r, s.size ≤ 4398046511104) (hi : StrsAt 0 w.heap.size w (some ⟨g, off, none⟩) (a :: b :: x :: r)) (ha : z_ac a = true) (hi2 : (b.toList == [105, 115]) = true) (hr : r.length ≠ 0) (q4 : ((r.length : Int) + 3 != 4) = true) :
  Calls Tryz.prog 171 #[.int .i64 (2 : Nat), .slice (some ⟨g, off, none⟩) (r.length + 3) c] w (z_bg w (2 : Nat) (a :: b :: x :: r)) := by
 have HN : Hid (z_af ((2 : Nat) : Int) (a :: b :: x :: r) = none) := by show pLet (a :: b :: x :: r) = _; rw [pLet]; exact if_neg (by rw [z_jj hi2]; exact fun h => by have := h.2.2; omega)
 have za := hz a (by simp)
 obtain ⟨_, _, e0, hB, k0⟩ := hi.at 0 (by simp)
 cases e0
 have c0 : w.cell? ⟨g, off, none⟩ = some (.string a) := k0
 obtain ⟨_, _, e1, _, k1⟩ := hi.at 1 (by simp)
 cases e1
 have c1 : w.cell? ⟨g, off + 1, none⟩ = some (.string b) := k1
 have hb0 : g < w.heap.size := hB.2
 have p0 : (0 : Int) < r.length + 3 := by omega
 have p1 : (1 : Int) < r.length + 3 := by omega
 have q0 : decide ((r.length : Int) + 3 < 3) = false := by simp; omega
 have hh := z_ka hi2
 have q3 : ((r.length : Int) + 3 != 3) = true := by simp; omega
 have hi3 : (b.toList != [105, 115]) = false := by rw [bne, hi2]; rfl
 clear hi hz k0 k1
 go_enter Tryz.func171, Tryz.ntmps171
 go_wp2_with fail
 refine wp_region_held_drew (S := (fun w' => w'.cell? ⟨g, off, none⟩ = some (.string a) ∧ w'.cell? ⟨g, off + 1, none⟩ = some (.string b))) (by kernel_rfl) ?_ (fun hHeld => ?_)
 ·try dsimp only
  first | assumption | (go_keep; done)
 refine tkL 0 ?_
 try simp only [Act.put, nA, nB, nC, nD, nE, nF]
 refine tkL 1 ?_
 try simp only [Act.put, nA, nB, nC, nD, nE, nF]
 refine tkL 2 ?_
 try simp only [Act.put, nA, nB, nC, nD, nE, nF]
 refine tkL 3 ?_
 try simp only [Act.put, nA, nB, nC, nD, nE, nF]
 refine tkL 4 ?_
 try simp only [Act.put, nA, nB, nC, nD, nE, nF]
 refine tkL 5 ?_
 try simp only [Act.put, nA, nB, nC, nD, nE, nF]
 refine wpAnyH_ready (rs := [6]) (by kernel_rfl) (by simp) ?_
 refine AllReadyH.cons rfl (fun K hK => ?_) AllReadyH.nil
 go_simp
 go_wp2_with (go_at_call 140; refine (z_a a _ (by omega)).mono ?_; rintro e wx ⟨rfl, rfl⟩; rw [ha])
 refine hK.out _ _ ?_ (fun hHeld => ?_)
 ·try dsimp only
  first | assumption | (go_keep; done)
 clear hK K
 try simp only [Act.put, nA, nB, nC, nD, nE, nF]
 refine tkL 7 ?_
 try simp only [Act.put, nA, nB, nC, nD, nE, nF]
 refine tkL 8 ?_
 try simp only [Act.put, nA, nB, nC, nD, nE, nF]
 refine tkL 9 ?_
 try simp only [Act.put, nA, nB, nC, nD, nE, nF]
 refine tkL 11 ?_
 try simp only [Act.put, nA, nB, nC, nD, nE, nF]
 refine tkL 12 ?_
 try simp only [Act.put, nA, nB, nC, nD, nE, nF]
 refine tkL 13 ?_
 try simp only [Act.put, nA, nB, nC, nD, nE, nF]
 refine wpAnyH_ready (rs := [10]) (by kernel_rfl) (by simp) ?_
 refine AllReadyH.cons rfl (fun K hK => ?_) AllReadyH.nil
 go_simp
 go_wp2_with (go_at_call 196; refine (z_ca _).mono ?_; rintro e w1 ⟨rfl, hb1, hs1⟩; obtain ⟨HB1, HS1, ⟨hz1, hz2⟩, ⟨r0, r1, r2, r3, r4⟩, ⟨s0, s1, s2, s3, s4⟩, f0, f1⟩ := z_by hb1 hs1; have d0 := (HB1.out.cell (p := ⟨g, off, none⟩) hb0).trans c0; have d1 := (HB1.out.cell (p := ⟨g, off + 1, none⟩) hb0).trans c1; clear hb1 hs1)
 refine hK.out _ _ ?_ (fun hHeld => ?_)
 ·try dsimp only
  first | assumption | exact ⟨d0, d1⟩ | (go_keep; done)
 clear hK K
 try simp only [Act.put, nA, nB, nC, nD, nE, nF]
 refine wpAnyH_ready (rs := [14]) (by kernel_rfl) (by simp) ?_
 refine AllReadyH.cons rfl (fun K hK => ?_) AllReadyH.nil
 go_simp
 go_wp2_with (go_at_call 141; refine (z_aF _ 4 opsS b _ _ (by decide) HS1.out).mono ?_; rintro e w2 ⟨rfl, rfl⟩; rw [hh])
 refine hK.out _ _ ?_ (fun hHeld => ?_)
 ·try dsimp only
  first | assumption | exact ⟨d0, d1⟩ | (go_keep; done)
 clear hK K
 try simp only [Act.put, nA, nB, nC, nD, nE, nF]
 refine tkL 15 ?_
 try simp only [Act.put, nA, nB, nC, nD, nE, nF]
 refine tkL 16 ?_
 try simp only [Act.put, nA, nB, nC, nD, nE, nF]
 refine tkL 17 ?_
 try simp only [Act.put, nA, nB, nC, nD, nE, nF]
 refine tkL 18 ?_
 try simp only [Act.put, nA, nB, nC, nD, nE, nF]
 refine tkL 19 ?_
 try simp only [Act.put, nA, nB, nC, nD, nE, nF]
 refine tkL 20 ?_
 try simp only [Act.put, nA, nB, nC, nD, nE, nF]
 refine tkL 21 ?_
 try simp only [Act.put, nA, nB, nC, nD, nE, nF]
 refine tkL 22 ?_
 try simp only [Act.put, nA, nB, nC, nD, nE, nF]
 refine tkL 23 ?_
 try simp only [Act.put, nA, nB, nC, nD, nE, nF]
 refine tkL 24 ?_
 try simp only [Act.put, nA, nB, nC, nD, nE, nF]
 refine tkL 25 ?_
 try simp only [Act.put, nA, nB, nC, nD, nE, nF]
 refine tkL 26 ?_
 try simp only [Act.put, nA, nB, nC, nD, nE, nF]
 refine tkL 27 ?_
 try simp only [Act.put, nA, nB, nC, nD, nE, nF]
 refine tkL 28 ?_
 try simp only [Act.put, nA, nB, nC, nD, nE, nF]
 refine tkL 29 ?_
 try simp only [Act.put, nA, nB, nC, nD, nE, nF]
 refine tkL 30 ?_
 try simp only [Act.put, nA, nB, nC, nD, nE, nF]
 refine tkL 31 ?_
 try simp only [Act.put, nA, nB, nC, nD, nE, nF]
 refine tkL 32 ?_
 try simp only [Act.put, nA, nB, nC, nD, nE, nF]
 refine tkL 33 ?_
 try simp only [Act.put, nA, nB, nC, nD, nE, nF]
 refine tkL 34 ?_
 try simp only [Act.put, nA, nB, nC, nD, nE, nF]
 refine tkL 35 ?_
 try simp only [Act.put, nA, nB, nC, nD, nE, nF]
 refine tkL 36 ?_
 try simp only [Act.put, nA, nB, nC, nD, nE, nF]
 refine tkL 37 ?_
 try simp only [Act.put, nA, nB, nC, nD, nE, nF]
 refine tkR 38 ?_
 try simp only [Act.put, nA, nB, nC, nD, nE, nF]
 refine tkR 39 ?_
 try simp only [Act.put, nA, nB, nC, nD, nE, nF]
 refine tkR 40 ?_
 try simp only [Act.put, nA, nB, nC, nD, nE, nF]
 refine tkR 41 ?_
 try simp only [Act.put, nA, nB, nC, nD, nE, nF]
 refine tkL 42 ?_
 try simp only [Act.put, nA, nB, nC, nD, nE, nF]
 refine wpAnyH_done (by kernel_rfl) ?_ _
 all_goals
  go_wp2_with fail
  refine bodyPost_ret (v := .tuple #[.agg #[.int .i64 _, .string ⟨#[]⟩, .string ⟨#[]⟩, .slice none 0 0, .string ⟨#[]⟩], .bool false]) (by simp [results, Tryz.results171, go_sem, r0, r1, r2, r3, r4]; rfl) rfl ?_
  exact z_aH (args := []) (z_az HB1.out _ _ _ _ _) (Nat.le_refl _) (StrsAt.nil _ _ _ _) HN.out (Nat.zero_le _)
end
section
open Go.RowKit
set_option linter.unusedSimpArgs false
theorem z_iH (g off c : Nat) (a b x : ByteArray) (r : List ByteArray) (hl : r.length ≤ 4398046511000) (w : World) (hc : r.length + 3 ≤ c) (hz : ∀ s ∈ a :: b :: x :: r, s.size ≤ 4398046511104) (hi : StrsAt 0 w.heap.size w (some ⟨g, off, none⟩) (a :: b :: x :: r)) (ha : z_ac a = true) (hh : hasB opsS b = true) (hi2 : (b.toList == [105, 115]) = false) (hr : r.length ≠ 1) :
  Calls Tryz.prog 171 #[.int .i64 (2 : Nat), .slice (some ⟨g, off, none⟩) (r.length + 3) c] w (z_bg w (2 : Nat) (a :: b :: x :: r)) := by
 have HN : Hid (z_af ((2 : Nat) : Int) (a :: b :: x :: r) = none) := by show pLet (a :: b :: x :: r) = _; rw [pLet]; exact if_neg (by rw [z_lf hh hi2]; exact fun h => by have := h.2.2; omega)
 have za := hz a (by simp)
 obtain ⟨_, _, e0, hB, k0⟩ := hi.at 0 (by simp)
 cases e0
 have c0 : w.cell? ⟨g, off, none⟩ = some (.string a) := k0
 obtain ⟨_, _, e1, _, k1⟩ := hi.at 1 (by simp)
 cases e1
 have c1 : w.cell? ⟨g, off + 1, none⟩ = some (.string b) := k1
 have hb0 : g < w.heap.size := hB.2
 have p0 : (0 : Int) < r.length + 3 := by omega
 have p1 : (1 : Int) < r.length + 3 := by omega
 have q0 : decide ((r.length : Int) + 3 < 3) = false := by simp; omega
 have q4 : ((r.length : Int) + 3 != 4) = true := by simp; omega
 have hi3 : (b.toList != [105, 115]) = true := by rw [bne, hi2]; rfl
 clear hi hz k0 k1
 go_enter Tryz.func171, Tryz.ntmps171
 go_wp2_with fail
 refine wp_region_held_drew (S := (fun w' => w'.cell? ⟨g, off, none⟩ = some (.string a) ∧ w'.cell? ⟨g, off + 1, none⟩ = some (.string b))) (by kernel_rfl) ?_ (fun hHeld => ?_)
 ·try dsimp only
  first | assumption | (go_keep; done)
 refine tkL 0 ?_
 try simp only [Act.put, nA, nB, nC, nD, nE, nF]
 refine tkL 1 ?_
 try simp only [Act.put, nA, nB, nC, nD, nE, nF]
 refine tkL 2 ?_
 try simp only [Act.put, nA, nB, nC, nD, nE, nF]
 refine tkL 3 ?_
 try simp only [Act.put, nA, nB, nC, nD, nE, nF]
 refine tkL 4 ?_
 try simp only [Act.put, nA, nB, nC, nD, nE, nF]
 refine tkL 5 ?_
 try simp only [Act.put, nA, nB, nC, nD, nE, nF]
 refine wpAnyH_ready (rs := [6]) (by kernel_rfl) (by simp) ?_
 refine AllReadyH.cons rfl (fun K hK => ?_) AllReadyH.nil
 go_simp
 go_wp2_with (go_at_call 140; refine (z_a a _ (by omega)).mono ?_; rintro e wx ⟨rfl, rfl⟩; rw [ha])
 refine hK.out _ _ ?_ (fun hHeld => ?_)
 ·try dsimp only
  first | assumption | (go_keep; done)
 clear hK K
 try simp only [Act.put, nA, nB, nC, nD, nE, nF]
 refine tkL 7 ?_
 try simp only [Act.put, nA, nB, nC, nD, nE, nF]
 refine tkL 8 ?_
 try simp only [Act.put, nA, nB, nC, nD, nE, nF]
 refine tkL 9 ?_
 try simp only [Act.put, nA, nB, nC, nD, nE, nF]
 refine tkL 11 ?_
 try simp only [Act.put, nA, nB, nC, nD, nE, nF]
 refine tkL 12 ?_
 try simp only [Act.put, nA, nB, nC, nD, nE, nF]
 refine tkL 13 ?_
 try simp only [Act.put, nA, nB, nC, nD, nE, nF]
 refine wpAnyH_ready (rs := [10]) (by kernel_rfl) (by simp) ?_
 refine AllReadyH.cons rfl (fun K hK => ?_) AllReadyH.nil
 go_simp
 go_wp2_with (go_at_call 196; refine (z_ca _).mono ?_; rintro e w1 ⟨rfl, hb1, hs1⟩; obtain ⟨HB1, HS1, ⟨hz1, hz2⟩, ⟨r0, r1, r2, r3, r4⟩, ⟨s0, s1, s2, s3, s4⟩, f0, f1⟩ := z_by hb1 hs1; have d0 := (HB1.out.cell (p := ⟨g, off, none⟩) hb0).trans c0; have d1 := (HB1.out.cell (p := ⟨g, off + 1, none⟩) hb0).trans c1; clear hb1 hs1)
 refine hK.out _ _ ?_ (fun hHeld => ?_)
 ·try dsimp only
  first | assumption | exact ⟨d0, d1⟩ | (go_keep; done)
 clear hK K
 try simp only [Act.put, nA, nB, nC, nD, nE, nF]
 refine wpAnyH_ready (rs := [14]) (by kernel_rfl) (by simp) ?_
 refine AllReadyH.cons rfl (fun K hK => ?_) AllReadyH.nil
 go_simp
 go_wp2_with (go_at_call 141; refine (z_aF _ 4 opsS b _ _ (by decide) HS1.out).mono ?_; rintro e w2 ⟨rfl, rfl⟩; rw [hh])
 refine hK.out _ _ ?_ (fun hHeld => ?_)
 ·try dsimp only
  first | assumption | exact ⟨d0, d1⟩ | (go_keep; done)
 clear hK K
 try simp only [Act.put, nA, nB, nC, nD, nE, nF]
 refine tkL 15 ?_
 try simp only [Act.put, nA, nB, nC, nD, nE, nF]
 refine tkL 16 ?_
 try simp only [Act.put, nA, nB, nC, nD, nE, nF]
 refine tkL 17 ?_
 try simp only [Act.put, nA, nB, nC, nD, nE, nF]
 refine tkL 18 ?_
 try simp only [Act.put, nA, nB, nC, nD, nE, nF]
 refine tkL 19 ?_
 try simp only [Act.put, nA, nB, nC, nD, nE, nF]
 refine tkL 20 ?_
 try simp only [Act.put, nA, nB, nC, nD, nE, nF]
 refine tkL 21 ?_
 try simp only [Act.put, nA, nB, nC, nD, nE, nF]
 refine tkL 22 ?_
 try simp only [Act.put, nA, nB, nC, nD, nE, nF]
 refine tkL 23 ?_
 try simp only [Act.put, nA, nB, nC, nD, nE, nF]
 refine tkL 24 ?_
 try simp only [Act.put, nA, nB, nC, nD, nE, nF]
 refine tkL 25 ?_
 try simp only [Act.put, nA, nB, nC, nD, nE, nF]
 refine tkL 26 ?_
 try simp only [Act.put, nA, nB, nC, nD, nE, nF]
 refine tkL 27 ?_
 try simp only [Act.put, nA, nB, nC, nD, nE, nF]
 refine tkR 28 ?_
 try simp only [Act.put, nA, nB, nC, nD, nE, nF]
 refine tkR 29 ?_
 try simp only [Act.put, nA, nB, nC, nD, nE, nF]
 refine tkR 30 ?_
 try simp only [Act.put, nA, nB, nC, nD, nE, nF]
 refine tkR 31 ?_
 try simp only [Act.put, nA, nB, nC, nD, nE, nF]
 refine tkR 32 ?_
 try simp only [Act.put, nA, nB, nC, nD, nE, nF]
 refine tkR 33 ?_
 try simp only [Act.put, nA, nB, nC, nD, nE, nF]
 refine tkR 34 ?_
 try simp only [Act.put, nA, nB, nC, nD, nE, nF]
 refine tkR 35 ?_
 try simp only [Act.put, nA, nB, nC, nD, nE, nF]
 refine tkL 36 ?_
 try simp only [Act.put, nA, nB, nC, nD, nE, nF]
 refine tkL 37 ?_
 try simp only [Act.put, nA, nB, nC, nD, nE, nF]
 refine tkR 38 ?_
 try simp only [Act.put, nA, nB, nC, nD, nE, nF]
 refine tkR 39 ?_
 try simp only [Act.put, nA, nB, nC, nD, nE, nF]
 refine tkR 40 ?_
 try simp only [Act.put, nA, nB, nC, nD, nE, nF]
 refine tkR 41 ?_
 try simp only [Act.put, nA, nB, nC, nD, nE, nF]
 refine tkL 42 ?_
 try simp only [Act.put, nA, nB, nC, nD, nE, nF]
 refine wpAnyH_done (by kernel_rfl) ?_ _
 all_goals
  go_wp2_with fail
  refine bodyPost_ret (v := .tuple #[.agg #[.int .i64 _, .string ⟨#[]⟩, .string ⟨#[]⟩, .slice none 0 0, .string ⟨#[]⟩], .bool false]) (by simp [results, Tryz.results171, go_sem, r0, r1, r2, r3, r4]; rfl) rfl ?_
  exact z_aH (args := []) (z_az HB1.out _ _ _ _ _) (Nat.le_refl _) (StrsAt.nil _ _ _ _) HN.out (Nat.zero_le _)
end
end Go.Proofs.YtlbjjbolbopfmaaGreatDoor
