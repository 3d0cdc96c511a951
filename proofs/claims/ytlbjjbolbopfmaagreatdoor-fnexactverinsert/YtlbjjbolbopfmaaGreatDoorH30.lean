import Derived.Test.YtlbjjbolbopfmaaGreatDoorH00
import Derived.Test.YtlbjjbolbopfmaaGreatDoorH27
import Derived.Deep.RegionHeld3
import Derived.Test.YtlbjjbolbopfmaaGreatDoorH28
import Derived.Test.YtlbjjbolbopfmaaGreatDoorH29
import Derived.Test.YtlbjjbolbopfmaaGreatDoorH20
import Derived.Test.YtlbjjbolbopfmaaGreatDoorH15
import Derived.Test.YtlbjjbolbopfmaaGreatDoorH09
import Derived.Test.YtlbjjbolbopfmaaGreatDoorH16
import Derived.Test.YtlbjjbolbopfmaaGreatDoorH19
import Derived.Test.YtlbjjbolbopfmaaGreatDoorH10
namespace Go.Proofs.YtlbjjbolbopfmaaGreatDoor
set_option maxHeartbeats 60000000
set_option maxRecDepth 1000000
set_option linter.unusedVariables false
section
open Go.RowKit
set_option linter.unusedSimpArgs false
theorem l1Made_let_4n (g off c : Nat) (a b x : ByteArray) (y : ByteArray) (w : World) (hc : 4 ≤ c) (hz : ∀ s ∈ [a, b, x, y], s.size ≤ 4398046511104) (hi : StrsAt 0 w.heap.size w (some ⟨g, off, none⟩) ([a, b, x, y])) (ha : nameB a = true) (hh : hasB opsS b = true) (hi2 : (b.toList == [105, 115]) = false) (ho : allB operB [x, y] = false) :
  Calls Tryz.prog 171 #[.int .i64 (2 : Nat), .slice (some ⟨g, off, none⟩) (4) c] w (MadeE w (2 : Nat) ([a, b, x, y])) := by
 have HN : Hid (readP ((2 : Nat) : Int) ([a, b, x, y]) = none) := by show pLet ([a, b, x, y]) = _; rw [pLet]; exact if_neg (by rw [ho]; exact fun h => Bool.noConfusion h.2.1)
 have za := hz a (by simp)
 obtain ⟨_, _, e0, hB, k0⟩ := hi.at 0 (by simp)
 cases e0
 have c0 : w.cell? ⟨g, off, none⟩ = some (.string a) := k0
 obtain ⟨_, _, e1, _, k1⟩ := hi.at 1 (by simp)
 cases e1
 have c1 : w.cell? ⟨g, off + 1, none⟩ = some (.string b) := k1
 have hb0 : g < w.heap.size := hB.2
 have hi3 : (b.toList != [105, 115]) = true := by rw [bne, hi2]; rfl
 have HZ : Hid (∀ s ∈ [x, y], s.size ≤ 9223372036854775807) := fun s hs => by have := hz s (by simp at hs ⊢; rcases hs with h | h <;> simp [h]); omega
 have HD : Hid (StrsAt 0 w.heap.size w (some ⟨g, off + 2, none⟩) [x, y]) := hi.drop 2
 have hc2 : ¬ c = 2 := by omega
 clear hi hz k0 k1
 go_enter Tryz.func171, Tryz.ntmps171
 go_wp2_with fail
 refine wp_region_held_drew (S := (fun w' => w'.cell? ⟨g, off, none⟩ = some (.string a) ∧ w'.cell? ⟨g, off + 1, none⟩ = some (.string b))) (by kernel_rfl) ?_ (fun hHeld => ?_)
 ·try dsimp only
  first | assumption | (go_keep; done)
 refine tkL 0 ?_
 try simp only [Act.put, nA, nB, nC, nD, nE, nF]
 refine tkL 1 ?_
 try simp only [Act.put, nA, nB, nC, nD, nE, nF]
 refine tkL 2 ?_
 try simp only [Act.put, nA, nB, nC, nD, nE, nF]
 refine tkL 3 ?_
 try simp only [Act.put, nA, nB, nC, nD, nE, nF]
 refine tkL 4 ?_
 try simp only [Act.put, nA, nB, nC, nD, nE, nF]
 refine tkL 5 ?_
 try simp only [Act.put, nA, nB, nC, nD, nE, nF]
 refine wpAnyH_ready (rs := [6]) (by kernel_rfl) (by simp) ?_
 refine AllReadyH.cons rfl (fun K hK => ?_) AllReadyH.nil
 go_simp
 go_wp2_with (go_at_call 140; refine (l1NameOk_any a _ (by omega)).mono ?_; rintro e wx ⟨rfl, rfl⟩; rw [ha])
 refine hK.out _ _ ?_ (fun hHeld => ?_)
 ·try dsimp only
  first | assumption | (go_keep; done)
 clear hK K
 try simp only [Act.put, nA, nB, nC, nD, nE, nF]
 refine tkL 7 ?_
 try simp only [Act.put, nA, nB, nC, nD, nE, nF]
 refine tkL 8 ?_
 try simp only [Act.put, nA, nB, nC, nD, nE, nF]
 refine tkL 9 ?_
 try simp only [Act.put, nA, nB, nC, nD, nE, nF]
 refine tkL 11 ?_
 try simp only [Act.put, nA, nB, nC, nD, nE, nF]
 refine tkL 12 ?_
 try simp only [Act.put, nA, nB, nC, nD, nE, nF]
 refine tkL 13 ?_
 try simp only [Act.put, nA, nB, nC, nD, nE, nF]
 refine wpAnyH_ready (rs := [10]) (by kernel_rfl) (by simp) ?_
 refine AllReadyH.cons rfl (fun K hK => ?_) AllReadyH.nil
 go_simp
 go_wp2_with (go_at_call 196; refine (l1Ops_any _).mono ?_; rintro e w1 ⟨rfl, hb1, hs1⟩; obtain ⟨HB1, HS1, ⟨hz1, hz2⟩, ⟨r0, r1, r2, r3, r4⟩, ⟨s0, s1, s2, s3, s4⟩, f0, f1⟩ := row_made hb1 hs1; have d0 := (HB1.out.cell (p := ⟨g, off, none⟩) hb0).trans c0; have d1 := (HB1.out.cell (p := ⟨g, off + 1, none⟩) hb0).trans c1; clear hb1 hs1)
 refine hK.out _ _ ?_ (fun hHeld => ?_)
 ·try dsimp only
  first | assumption | exact ⟨d0, d1⟩ | (go_keep; done)
 clear hK K
 try simp only [Act.put, nA, nB, nC, nD, nE, nF]
 refine wpAnyH_ready (rs := [14]) (by kernel_rfl) (by simp) ?_
 refine AllReadyH.cons rfl (fun K hK => ?_) AllReadyH.nil
 go_simp
 go_wp2_with (go_at_call 141; refine (l1Has_any _ 4 opsS b _ _ (by decide) HS1.out).mono ?_; rintro e w2 ⟨rfl, rfl⟩; rw [hh])
 refine hK.out _ _ ?_ (fun hHeld => ?_)
 ·try dsimp only
  first | assumption | exact ⟨d0, d1⟩ | (go_keep; done)
 clear hK K
 try simp only [Act.put, nA, nB, nC, nD, nE, nF]
 refine tkL 15 ?_
 try simp only [Act.put, nA, nB, nC, nD, nE, nF]
 refine tkL 16 ?_
 try simp only [Act.put, nA, nB, nC, nD, nE, nF]
 refine tkL 17 ?_
 try simp only [Act.put, nA, nB, nC, nD, nE, nF]
 refine tkL 18 ?_
 try simp only [Act.put, nA, nB, nC, nD, nE, nF]
 refine tkL 19 ?_
 try simp only [Act.put, nA, nB, nC, nD, nE, nF]
 refine tkL 20 ?_
 try simp only [Act.put, nA, nB, nC, nD, nE, nF]
 refine tkR 21 ?_
 try simp only [Act.put, nA, nB, nC, nD, nE, nF]
 refine tkR 22 ?_
 try simp only [Act.put, nA, nB, nC, nD, nE, nF]
 refine tkR 23 ?_
 try simp only [Act.put, nA, nB, nC, nD, nE, nF]
 refine tkR 24 ?_
 try simp only [Act.put, nA, nB, nC, nD, nE, nF]
 refine tkL 25 ?_
 try simp only [Act.put, nA, nB, nC, nD, nE, nF]
 refine tkL 26 ?_
 try simp only [Act.put, nA, nB, nC, nD, nE, nF]
 refine tkL 27 ?_
 try simp only [Act.put, nA, nB, nC, nD, nE, nF]
 refine tkL 28 ?_
 try simp only [Act.put, nA, nB, nC, nD, nE, nF]
 refine tkL 29 ?_
 try simp only [Act.put, nA, nB, nC, nD, nE, nF]
 refine tkL 30 ?_
 try simp only [Act.put, nA, nB, nC, nD, nE, nF]
 refine tkL 31 ?_
 try simp only [Act.put, nA, nB, nC, nD, nE, nF]
 refine tkL 32 ?_
 try simp only [Act.put, nA, nB, nC, nD, nE, nF]
 refine tkL 33 ?_
 try simp only [Act.put, nA, nB, nC, nD, nE, nF]
 refine tkL 34 ?_
 try simp only [Act.put, nA, nB, nC, nD, nE, nF]
 refine tkL 35 ?_
 try simp only [Act.put, nA, nB, nC, nD, nE, nF]
 refine tkL 36 ?_
 try simp only [Act.put, nA, nB, nC, nD, nE, nF]
 refine tkL 37 ?_
 try simp only [Act.put, nA, nB, nC, nD, nE, nF]
 refine tkL 38 ?_
 try simp only [Act.put, nA, nB, nC, nD, nE, nF]
 refine tkL 39 ?_
 try simp only [Act.put, nA, nB, nC, nD, nE, nF]
 refine wpAnyH_ready (rs := [40]) (by kernel_rfl) (by simp) ?_
 refine AllReadyH.cons rfl (fun K hK => ?_) AllReadyH.nil
 go_simp
 go_wp2_with (go_at_call 197; refine (l1Operands_any (some ⟨g, off + 2, none⟩) (c - 2) [x, y] w.heap.size _ (by simp) HZ.out (HD.out.below HB1.out)).mono ?_; rintro e wx ⟨rfl, rfl⟩; rw [ho])
 refine hK.out _ _ ?_ (fun hHeld => ?_)
 ·try dsimp only
  first | assumption | exact ⟨d0, d1⟩ | (go_keep; done)
 clear hK K
 try simp only [Act.put, nA, nB, nC, nD, nE, nF]
 refine tkL 41 ?_
 try simp only [Act.put, nA, nB, nC, nD, nE, nF]
 refine tkL 42 ?_
 try simp only [Act.put, nA, nB, nC, nD, nE, nF]
 refine wpAnyH_done (by kernel_rfl) ?_ _
 all_goals
  go_wp2_with fail
  refine bodyPost_ret (v := .tuple #[.agg #[.int .i64 _, .string ⟨#[]⟩, .string ⟨#[]⟩, .slice none 0 0, .string ⟨#[]⟩], .bool false]) (by simp [results, Tryz.results171, go_sem, r0, r1, r2, r3, r4]; rfl) rfl ?_
  exact made_no (args := []) (below_ret HB1.out _ _ _ _ _) (Nat.le_refl _) (StrsAt.nil _ _ _ _) HN.out (Nat.zero_le _)
end
section
open Go.RowKit
set_option linter.unusedSimpArgs false
theorem l1Made_let_4y (g off c : Nat) (a b x : ByteArray) (y : ByteArray) (w : World) (hc : 4 ≤ c) (hz : ∀ s ∈ [a, b, x, y], s.size ≤ 4398046511104) (hi : StrsAt 0 w.heap.size w (some ⟨g, off, none⟩) ([a, b, x, y])) (ha : nameB a = true) (hh : hasB opsS b = true) (hi2 : (b.toList == [105, 115]) = false) (ho : allB operB [x, y] = true) :
  Calls Tryz.prog 171 #[.int .i64 (2 : Nat), .slice (some ⟨g, off, none⟩) (4) c] w (MadeE w (2 : Nat) ([a, b, x, y])) := by
 have HN : Hid (readP ((2 : Nat) : Int) [a, b, x, y] = some ⟨a, b, [x, y], eS⟩) := by show pLet [a, b, x, y] = _; rw [pLet]; exact if_pos ⟨ha, ho, by rw [letN_op hh hi2]; rfl⟩
 have za := hz a (by simp)
 obtain ⟨_, _, e0, hB, k0⟩ := hi.at 0 (by simp)
 cases e0
 have c0 : w.cell? ⟨g, off, none⟩ = some (.string a) := k0
 obtain ⟨_, _, e1, _, k1⟩ := hi.at 1 (by simp)
 cases e1
 have c1 : w.cell? ⟨g, off + 1, none⟩ = some (.string b) := k1
 have hb0 : g < w.heap.size := hB.2
 have hi3 : (b.toList != [105, 115]) = true := by rw [bne, hi2]; rfl
 have HZ : Hid (∀ s ∈ [x, y], s.size ≤ 9223372036854775807) := fun s hs => by have := hz s (by simp at hs ⊢; rcases hs with h | h <;> simp [h]); omega
 have HD : Hid (StrsAt 0 w.heap.size w (some ⟨g, off + 2, none⟩) [x, y]) := hi.drop 2
 have hc2 : ¬ c = 2 := by omega
 clear hi hz k0 k1
 go_enter Tryz.func171, Tryz.ntmps171
 go_wp2_with fail
 refine wp_region_held_drew (S := (fun w' => w'.cell? ⟨g, off, none⟩ = some (.string a) ∧ w'.cell? ⟨g, off + 1, none⟩ = some (.string b))) (by kernel_rfl) ?_ (fun hHeld => ?_)
 ·try dsimp only
  first | assumption | (go_keep; done)
 refine tkL 0 ?_
 try simp only [Act.put, nA, nB, nC, nD, nE, nF]
 refine tkL 1 ?_
 try simp only [Act.put, nA, nB, nC, nD, nE, nF]
 refine tkL 2 ?_
 try simp only [Act.put, nA, nB, nC, nD, nE, nF]
 refine tkL 3 ?_
 try simp only [Act.put, nA, nB, nC, nD, nE, nF]
 refine tkL 4 ?_
 try simp only [Act.put, nA, nB, nC, nD, nE, nF]
 refine tkL 5 ?_
 try simp only [Act.put, nA, nB, nC, nD, nE, nF]
 refine wpAnyH_ready (rs := [6]) (by kernel_rfl) (by simp) ?_
 refine AllReadyH.cons rfl (fun K hK => ?_) AllReadyH.nil
 go_simp
 go_wp2_with (go_at_call 140; refine (l1NameOk_any a _ (by omega)).mono ?_; rintro e wx ⟨rfl, rfl⟩; rw [ha])
 refine hK.out _ _ ?_ (fun hHeld => ?_)
 ·try dsimp only
  first | assumption | (go_keep; done)
 clear hK K
 try simp only [Act.put, nA, nB, nC, nD, nE, nF]
 refine tkL 7 ?_
 try simp only [Act.put, nA, nB, nC, nD, nE, nF]
 refine tkL 8 ?_
 try simp only [Act.put, nA, nB, nC, nD, nE, nF]
 refine tkL 9 ?_
 try simp only [Act.put, nA, nB, nC, nD, nE, nF]
 refine tkL 11 ?_
 try simp only [Act.put, nA, nB, nC, nD, nE, nF]
 refine tkL 12 ?_
 try simp only [Act.put, nA, nB, nC, nD, nE, nF]
 refine tkL 13 ?_
 try simp only [Act.put, nA, nB, nC, nD, nE, nF]
 refine wpAnyH_ready (rs := [10]) (by kernel_rfl) (by simp) ?_
 refine AllReadyH.cons rfl (fun K hK => ?_) AllReadyH.nil
 go_simp
 go_wp2_with (go_at_call 196; refine (l1Ops_any _).mono ?_; rintro e w1 ⟨rfl, hb1, hs1⟩; obtain ⟨HB1, HS1, ⟨hz1, hz2⟩, ⟨r0, r1, r2, r3, r4⟩, ⟨s0, s1, s2, s3, s4⟩, f0, f1⟩ := row_made hb1 hs1; have d0 := (HB1.out.cell (p := ⟨g, off, none⟩) hb0).trans c0; have d1 := (HB1.out.cell (p := ⟨g, off + 1, none⟩) hb0).trans c1; clear hb1 hs1)
 refine hK.out _ _ ?_ (fun hHeld => ?_)
 ·try dsimp only
  first | assumption | exact ⟨d0, d1⟩ | (go_keep; done)
 clear hK K
 try simp only [Act.put, nA, nB, nC, nD, nE, nF]
 refine wpAnyH_ready (rs := [14]) (by kernel_rfl) (by simp) ?_
 refine AllReadyH.cons rfl (fun K hK => ?_) AllReadyH.nil
 go_simp
 go_wp2_with (go_at_call 141; refine (l1Has_any _ 4 opsS b _ _ (by decide) HS1.out).mono ?_; rintro e w2 ⟨rfl, rfl⟩; rw [hh])
 refine hK.out _ _ ?_ (fun hHeld => ?_)
 ·try dsimp only
  first | assumption | exact ⟨d0, d1⟩ | (go_keep; done)
 clear hK K
 try simp only [Act.put, nA, nB, nC, nD, nE, nF]
 refine tkL 15 ?_
 try simp only [Act.put, nA, nB, nC, nD, nE, nF]
 refine tkL 16 ?_
 try simp only [Act.put, nA, nB, nC, nD, nE, nF]
 refine tkL 17 ?_
 try simp only [Act.put, nA, nB, nC, nD, nE, nF]
 refine tkL 18 ?_
 try simp only [Act.put, nA, nB, nC, nD, nE, nF]
 refine tkL 19 ?_
 try simp only [Act.put, nA, nB, nC, nD, nE, nF]
 refine tkL 20 ?_
 try simp only [Act.put, nA, nB, nC, nD, nE, nF]
 refine tkR 21 ?_
 try simp only [Act.put, nA, nB, nC, nD, nE, nF]
 refine tkR 22 ?_
 try simp only [Act.put, nA, nB, nC, nD, nE, nF]
 refine tkR 23 ?_
 try simp only [Act.put, nA, nB, nC, nD, nE, nF]
 refine tkR 24 ?_
 try simp only [Act.put, nA, nB, nC, nD, nE, nF]
 refine tkL 25 ?_
 try simp only [Act.put, nA, nB, nC, nD, nE, nF]
 refine tkL 26 ?_
 try simp only [Act.put, nA, nB, nC, nD, nE, nF]
 refine tkL 27 ?_
 try simp only [Act.put, nA, nB, nC, nD, nE, nF]
 refine tkL 28 ?_
 try simp only [Act.put, nA, nB, nC, nD, nE, nF]
 refine tkL 29 ?_
 try simp only [Act.put, nA, nB, nC, nD, nE, nF]
 refine tkL 30 ?_
 try simp only [Act.put, nA, nB, nC, nD, nE, nF]
 refine tkL 31 ?_
 try simp only [Act.put, nA, nB, nC, nD, nE, nF]
 refine tkL 32 ?_
 try simp only [Act.put, nA, nB, nC, nD, nE, nF]
 refine tkL 33 ?_
 try simp only [Act.put, nA, nB, nC, nD, nE, nF]
 refine tkL 34 ?_
 try simp only [Act.put, nA, nB, nC, nD, nE, nF]
 refine tkL 35 ?_
 try simp only [Act.put, nA, nB, nC, nD, nE, nF]
 refine tkL 36 ?_
 try simp only [Act.put, nA, nB, nC, nD, nE, nF]
 refine tkL 37 ?_
 try simp only [Act.put, nA, nB, nC, nD, nE, nF]
 refine tkL 38 ?_
 try simp only [Act.put, nA, nB, nC, nD, nE, nF]
 refine tkL 39 ?_
 try simp only [Act.put, nA, nB, nC, nD, nE, nF]
 refine wpAnyH_ready (rs := [40]) (by kernel_rfl) (by simp) ?_
 refine AllReadyH.cons rfl (fun K hK => ?_) AllReadyH.nil
 go_simp
 go_wp2_with (go_at_call 197; refine (l1Operands_any (some ⟨g, off + 2, none⟩) (c - 2) [x, y] w.heap.size _ (by simp) HZ.out (HD.out.below HB1.out)).mono ?_; rintro e wx ⟨rfl, rfl⟩; rw [ho])
 refine hK.out _ _ ?_ (fun hHeld => ?_)
 ·try dsimp only
  first | assumption | exact ⟨d0, d1⟩ | (go_keep; done)
 clear hK K
 try simp only [Act.put, nA, nB, nC, nD, nE, nF]
 refine tkL 41 ?_
 try simp only [Act.put, nA, nB, nC, nD, nE, nF]
 refine tkL 42 ?_
 try simp only [Act.put, nA, nB, nC, nD, nE, nF]
 refine wpAnyH_done (by kernel_rfl) ?_ _
 all_goals
  go_wp2_with fail
  refine bodyPost_ret (v := .tuple #[.agg #[.int .i64 _, .string a, .string b, .slice (some ⟨g, off + 2, none⟩) 2 (c - 2), .string ⟨#[]⟩], .bool true]) (by simp [results, Tryz.results171, go_sem, r0, r1, r2, r3, r4]; rfl) rfl ?_
  have hX : Below w.heap.size w (((wx.setCell ⟨w.heap.size + 1, 1, none⟩ (.string a)).setCell ⟨w.heap.size + 1, 2, none⟩ (.string b)).setCell ⟨w.heap.size + 1, 3, none⟩ (.slice (some ⟨g, off + 2, none⟩) 2 (c - 2))) := ((HB1.out.setCell (p := ⟨w.heap.size + 1, 1, none⟩) (Nat.le_succ w.heap.size) _).setCell (p := ⟨w.heap.size + 1, 2, none⟩) (Nat.le_succ w.heap.size) _).setCell (p := ⟨w.heap.size + 1, 3, none⟩) (Nat.le_succ w.heap.size) _
  refine made_yes (args := [x, y]) ?_ (by simp; omega) ?_ HN.out (by simp)
  ·exact below_ret hX _ _ _ _ _
  ·exact (HD.out.below (below_ret hX _ _ _ _ _)).mono (Nat.le_refl _) (below_ret hX _ _ _ _ _).size
end
section
open Go.RowKit
theorem l1Made_let (ao : Option Addr) (c : Nat) (ws : List ByteArray) (w : World) (hl : ws.length ≤ 4398046511000) (hc : ws.length ≤ c) (hz : ∀ s ∈ ws, s.size ≤ 4398046511104) (hi : StrsAt 0 w.heap.size w ao ws) :
  Calls Tryz.prog 171 #[.int .i64 (2 : Nat), .slice ao ws.length c] w (MadeE w (2 : Nat) ws) := by
 by_cases h3 : ws.length < 3
 ·exact l1Made_let_len ao c ws w h3
 match ws, h3, hl, hc, hz, hi with
 | [], h, _, _, _, _ => exact absurd (by simp) h
 | [_], h, _, _, _, _ => exact absurd (by simp) h
 | [_, _], h, _, _, _, _ => exact absurd (by simp) h
 | a :: b :: x :: r, _, hl, hc, hz, hi =>
  obtain ⟨g, off, rfl, _⟩ := hi.at 0 (by simp)
  have el : (a :: b :: x :: r).length = r.length + 3 := by simp
  rw [el] at hl hc ⊢
  have hl2 : r.length ≤ 4398046511000 := by omega
  cases ha : nameB a with
  | false => exact l1Made_let_a g off c a b x r hl2 w hc hz hi ha
  | true =>
   cases hh : hasB opsS b with
   | false => exact l1Made_let_b g off c a b x r hl2 w hc hz hi ha hh
   | true =>
    cases h2 : (b.toList == [105, 115]) with
    | true =>
     by_cases hr : r.length = 0
     ·have : r = [] := List.length_eq_zero_iff.1 hr
      subst this
      cases ho : allB operB [x] with
      | false => exact l1Made_let_3n g off c a b x w hc hz hi ha h2 ho
      | true => exact l1Made_let_3y g off c a b x w hc hz hi ha h2 ho
     ·cases q4 : ((r.length : Int) + 3 != 4) with
      | false => exact l1Made_let_i4 g off c a b x r hl2 w hc hz hi ha h2 hr q4
      | true => exact l1Made_let_i5 g off c a b x r hl2 w hc hz hi ha h2 hr q4
    | false =>
     by_cases hr : r.length = 1
     ·obtain ⟨y, rfl⟩ := List.length_eq_one_iff.1 hr
      cases ho : allB operB [x, y] with
      | false => exact l1Made_let_4n g off c a b x y w hc hz hi ha hh h2 ho
      | true => exact l1Made_let_4y g off c a b x y w hc hz hi ha hh h2 ho
     ·exact l1Made_let_o g off c a b x r hl2 w hc hz hi ha hh h2 hr
theorem l1Made_any (k : Nat) (h1 : 1 ≤ k) (h15 : k ≤ 15) (ao : Option Addr) (c : Nat) (ws : List ByteArray) (w : World) (hl : ws.length ≤ 4398046511000) (hc : ws.length ≤ c) (hz : ∀ s ∈ ws, s.size ≤ 4398046511104) (hi : StrsAt 0 w.heap.size w ao ws) :
  Calls Tryz.prog 171 #[.int .i64 k, .slice ao ws.length c] w (MadeE w k ws) := by
 have hz2 : ∀ s ∈ ws, s.size ≤ 9223372036854775807 := fun s hs => by have := hz s hs; omega
 by_cases e1 : k = 1
 ·subst e1; exact l1Made_head ao c ws w hl hc hz hi
 by_cases e2 : k = 2
 ·subst e2; exact l1Made_let ao c ws w hl hc hz hi
 by_cases e3 : k = 3
 ·subst e3; exact l1Made_do ao c ws w hl hc hz hi
 by_cases e5 : k = 5
 ·subst e5; exact l1Made_get ao c ws w hl hc hz hi
 by_cases e6 : k = 6 ∨ k = 8
 ·exact l1Made_test k e6 ao c ws w hl hc hz hi
 by_cases e4 : k = 4 ∨ k = 12 ∨ k = 13
 ·by_cases hn : ws.length = 1
  ·exact l1Made_operand_one k e4 ao c ws w hl hn hc hz2 hi
  ·exact l1Made_operand_none k e4 ao c ws w hl hn hc hi
 by_cases e14 : k = 14
 ·subst e14; exact l1Made_patch ao c ws w hl hz hi
 by_cases e15 : k = 15
 ·subst e15; exact l1Made_next ao c ws w hl hc hz2 hi
 exact l1Made_nothing k (by omega) ao c ws w hl
end
section
open Go.RowKit
def FillB (q : Nat) (w : World) (nb na i : Nat) : Prop := w.heap[nb]? = some (.cells #[.pointer (some ⟨q, 0, none⟩)] 200 (0, 0)) ∧ w.heap[na]? = some (.cells #[.int .i64 i] 3 (0, 0))
section
variable {q base : Nat} {lo : Option Addr} {cap : Nat} {ls : List Ln} {w w' w'' : World} {at_ nb na i : Nat} {v v' : Value} {ps : List (Stp × Value)}
theorem MkSt.other (hm : MkSt q base lo cap ls w at_ v ps) {k : Nat} {cs : Array Value} {t : TypeId} {f : Nat × Nat} (hk : w.heap[k]? = some (.cells cs t f)) (h1 : t ≠ 67) (h2 : t ≠ 52) : k < w.heap.size ∧ k ≠ q ∧ v.ownBlock ≠ some k := by
 refine ⟨(Array.getElem?_eq_some_iff.1 hk).1, fun e => ?_, fun e => ?_⟩
 ·subst e
  have h := hm.obj
  rw [hk] at h
  simp at h
  exact h1 h.2.1
 ·rcases hm.own.row.2 with ⟨rfl, _⟩ | ⟨g, vc, cur, rfl, _, hg, _⟩
  ·simp [Value.ownBlock] at e
  ·simp [Value.ownBlock] at e
   subst e
   rw [hk] at hg
   simp at hg
   exact h2 hg.2.1
theorem FillB.blk (h : FillB q w nb na i) (hm : MkSt q base lo cap ls w at_ v ps) : (nb < w.heap.size ∧ nb ≠ q ∧ v.ownBlock ≠ some nb) ∧ (na < w.heap.size ∧ na ≠ q ∧ v.ownBlock ≠ some na) :=
 ⟨hm.other h.1 (by decide) (by decide), hm.other h.2 (by decide) (by decide)⟩
theorem FillB.keep (h : FillB q w nb na i) (hm : MkSt q base lo cap ls w at_ v ps) (hk : Wk q v.ownBlock w w') : FillB q w' nb na i := by
 obtain ⟨⟨a1, a2, a3⟩, ⟨b1, b2, b3⟩⟩ := h.blk hm
 exact ⟨(hk.block nb a1 a2 (fun e => a3 e.symm)).trans h.1, (hk.block na b1 b2 (fun e => b3 e.symm)).trans h.2⟩
theorem FillB.below (h : FillB q w nb na i) (hb : Below w.heap.size w w') : FillB q w' nb na i :=
 ⟨(hb.block nb (Array.getElem?_eq_some_iff.1 h.1).1).trans h.1, (hb.block na (Array.getElem?_eq_some_iff.1 h.2).1).trans h.2⟩
theorem FillB.c0 (h : FillB q w nb na i) : w.cell? ⟨nb, 0, none⟩ = some (.pointer (some ⟨q, 0, none⟩)) := by rw [cell_of_row _ _ 0 _ _ _ h.1]; rfl
theorem FillB.c1 (h : FillB q w nb na i) : w.cell? ⟨na, 0, none⟩ = some (.int .i64 i) := by rw [cell_of_row _ _ 0 _ _ _ h.2]; rfl
theorem MkSt.set2 (h : MkSt q base lo cap ls w at_ v ps) (n : Nat) : MkSt q base lo cap ls (w.setCell ⟨q, 2, none⟩ (.int .i64 n)) n v ps :=
 ⟨heap_setCell_same w q 2 _ _ _ h.obj, h.own.keep fun k hk => Below.heap_setCell w _ _ k (fun e => by have h1 : k = q := e; have := (h.own.lt hk).1; have := h.qb; omega), h.lines.below ((Below.refl q w).setCell (p := ⟨q, 2, none⟩) (Nat.le_refl q) _), h.qb, by simpa [World.setCell] using h.bw⟩
end
end
section
open Go.RowKit
def BlkOK (q base : Nat) (lo : Option Addr) (cap : Nat) (ls : List Ln) (F at_ at2 N : Nat) (f : Nat → List Stp) : Prop :=
 ∀ (w : World) (v : Value) (ps : List (Stp × Value)), MkSt q base lo cap ls w at_ v ps → ps.length ≤ N → Calls Tryz.prog F #[.pointer (some ⟨q, 0, none⟩)] w fun e w' =>
  e = .returned (.tuple #[]) ∧ ∃ (v' : Value) (qs : List (Stp × Value)), qs.map (·.1) = f ps.length ∧ MkSt q base lo cap ls w' at2 v' (ps ++ qs) ∧ Wk q v.ownBlock w w' ∧ RowTo w v v'
theorem RowTo.set {w : World} {q j : Nat} {u v v' : Value} (h : RowTo (w.setCell ⟨q, j, none⟩ u) v v') : RowTo w v v' := RowTo.refl.trans h (by simp [World.setCell])
end
section
open Go.RowKit
theorem MkSt.linesW {q base : Nat} {lo : Option Addr} {cap : Nat} {ls : List Ln} {w : World} {at_ : Nat} {v : Value} {ps : List (Stp × Value)} (h : MkSt q base lo cap ls w at_ v ps) : LinesAt w.heap.size w lo ls := h.lines.mono (Nat.le_of_lt h.lt)
end
section
open Go.RowKit
set_option linter.unusedVariables false
end
section
open Go.RowKit
set_option linter.unusedVariables false
end
section
open Go.RowKit
def LBox (w : World) (p : Nat) (l : Ln) (ao : Option Addr) (cap : Nat) : Prop := w.heap[p]? = some (.cells #[.int .i64 l.1, .string l.2.to, .string l.2.name, .slice ao l.2.args.length cap, .string l.2.undo] 49 (0, 0))
section
variable {q base p : Nat} {lo ao : Option Addr} {cap c : Nat} {ls : List Ln} {w w' w0 W0 : World} {at_ : Nat} {v v' : Value} {ps : List (Stp × Value)} {l : Ln}
theorem LBox.cells (h : LBox w p l ao c) : w.cell? ⟨p, 0, none⟩ = some (.int .i64 l.1) ∧ w.cell? ⟨p, 1, none⟩ = some (.string l.2.to) ∧ w.cell? ⟨p, 2, none⟩ = some (.string l.2.name) ∧ w.cell? ⟨p, 3, none⟩ = some (.slice ao l.2.args.length c) ∧ w.cell? ⟨p, 4, none⟩ = some (.string l.2.undo) := by
 refine ⟨?_, ?_, ?_, ?_, ?_⟩ <;> (rw [cell_of_row _ _ _ _ _ _ h]; rfl)
theorem LBox.keep (h : LBox w p l ao c) (hm : MkSt q base lo cap ls w at_ v ps) (hk : Wk q v.ownBlock w w') : LBox w' p l ao c := by
 obtain ⟨h1, h2, h3⟩ := hm.other h (by decide) (by decide)
 exact (hk.block p h1 h2 (fun e => h3 e.symm)).trans h
theorem LBox.below (h : LBox w p l ao c) (hb : Below w.heap.size w w') : LBox w' p l ao c := (hb.block p (Array.getElem?_eq_some_iff.1 h).1).trans h
end
end
section
open Go.RowKit
set_option linter.unusedVariables false
end
section
open Go.RowKit
set_option linter.unusedVariables false
end
section
open Go.RowKit
set_option linter.unusedVariables false
end
section
open Go.RowKit
theorem BlkOK.congr {q base : Nat} {lo : Option Addr} {cap : Nat} {ls : List Ln} {F at_ at2 at3 N : Nat} {f g : Nat → List Stp} (h : BlkOK q base lo cap ls F at_ at2 N f) (e : at2 = at3) (hfg : ∀ n, f n = g n) : BlkOK q base lo cap ls F at_ at3 N g := by
 subst e
 intro w v ps hs hN
 rw [← hfg]
 exact h w v ps hs hN
end
section
open Go.RowKit
theorem MkSt.kind {q base : Nat} {b off : Nat} {cap : Nat} {ls : List Ln} {w : World} {at_ : Nat} {v : Value} {ps : List (Stp × Value)} (h : MkSt q base (some ⟨b, off, none⟩) cap ls w at_ v ps) (hl : at_ < ls.length) : w.cell? ⟨b, off + at_ * 5, none⟩ = some (.int .i64 ls[at_].1) ∧ b < w.heap.size := by
 obtain ⟨b', off', e, hB, aoA, capA, hcA, q0, _⟩ := h.linesW at_ hl
 cases e
 exact ⟨q0, hB⟩
end
section
theorem name_not_num {s : ByteArray} (h : nameB s = true) : numB s = false := by
 cases hn : numB s with
 | false => rfl
 | true =>
  exfalso
  rw [← numL_eq] at hn
  simp only [nameB, nameL, Bool.and_eq_true, decide_eq_true_eq] at h
  obtain ⟨h0, h1, h2⟩ := h
  cases hl : s.data.toList with
  | nil => rw [hl] at h1; simp at h1
  | cons b r =>
   rw [hl] at h0 hn
   simp only [okFrom, Bool.and_eq_true] at h0
   have hb := h0.1
   simp only [okC, Bool.or_eq_true, Bool.and_eq_true, decide_eq_true_eq] at hb
   have hb2 : 97 ≤ b.toNat := by
    rcases hb with h | h
    ·exact h.1
    ·exact absurd h.1 (by omega)
   have hneg : negL (b :: r) = false := by
    have : b ≠ 45 := fun e => by rw [e] at hb2; exact absurd hb2 (by decide)
    simp [negL, this]
   have hr : restL (b :: r) = b :: r := by simp [restL, hneg]
   simp only [numL, hr, Bool.and_eq_true] at hn
   have hf := figs_dig (b :: r) 0 (by simp) (by simp [digB]; omega)
   rw [hf] at hn
   exact Bool.noConfusion hn.1
theorem uses_known (ks : List ByteArray) : ∀ (args : List ByteArray), (∀ s ∈ args, operB s = true) → usesB ks args = allB (knownB ks) args
 | [], _ => rfl
 | s :: r, h => by
  have ih := uses_known ks r (fun x hx => h x (by simp [hx]))
  have e1 : usesB ks (s :: r) = ((!nameB s || hasB ks s) && usesB ks r) := rfl
  have e2 : allB (knownB ks) (s :: r) = (knownB ks s && allB (knownB ks) r) := rfl
  rw [e1, e2, ih]
  congr 1
  have ho := h s (by simp)
  unfold knownB
  unfold operB at ho
  cases hn : nameB s with
  | true => rw [name_not_num hn]; rfl
  | false =>
   rw [hn, Bool.false_or] at ho
   rw [ho]; rfl
theorem mem_addU {ks : List ByteArray} {s x : ByteArray} : x ∈ addU ks s ↔ x ∈ ks ∨ x = s := by
 unfold addU
 split
 ·rename_i h
  rw [hasB_iff] at h
  exact ⟨.inl, fun hx => hx.elim id fun e => e ▸ h⟩
 ·simp
theorem mem_uniU {x : ByteArray} : ∀ (ss ks : List ByteArray), x ∈ uniU ks ss ↔ x ∈ ks ∨ x ∈ ss
 | [], ks => by simp [uniU]
 | s :: r, ks => by
  have e : uniU ks (s :: r) = uniU (addU ks s) r := rfl
  rw [e, mem_uniU r, mem_addU, List.mem_cons, or_assoc]
theorem mem_setsL {x : ByteArray} {ls : List Ln} : x ∈ setsL ls ↔ ∃ l ∈ ls, l.2.to = x ∧ x.size ≠ 0 := by
 unfold setsL
 rw [mem_uniU]
 simp only [List.not_mem_nil, false_or, fillW, List.mem_filter, List.mem_map, decide_eq_true_eq]
 constructor
 ·rintro ⟨⟨l, hl, e⟩, hx⟩; exact ⟨l, hl, e, hx⟩
 ·rintro ⟨l, hl, e, hx⟩; exact ⟨⟨l, hl, e⟩, hx⟩
theorem mem_sigsL {x : ByteArray} {ls : List Ln} : x ∈ sigsL ls ↔ ∃ l ∈ ls, l.1 = 5 ∧ l.2.name = x := by
 unfold sigsL
 rw [mem_uniU]
 simp only [List.not_mem_nil, false_or, List.mem_filter, List.mem_map, beq_iff_eq]
 constructor
 ·rintro ⟨l, ⟨hl, h5⟩, e⟩; exact ⟨l, hl, h5, e⟩
 ·rintro ⟨l, hl, h5, e⟩; exact ⟨l, ⟨hl, h5⟩, e⟩
theorem mem_touchL {x : ByteArray} {ls : List Ln} : x ∈ touchL ls ↔ x ∈ setsL ls ∨ ∃ l ∈ ls, x ∈ l.2.args ∧ nameB x = true := by
 unfold touchL
 rw [mem_uniU]
 simp only [List.mem_flatMap, argN, List.mem_filter]
theorem comm_pos {a b : List ByteArray} : 0 < (comm a b).length ↔ ∃ x, x ∈ a ∧ x ∈ b := by
 rw [List.length_pos_iff_exists_mem]
 simp only [comm, List.mem_filter, hasB_iff]
def bareL (l : Ln) : Prop := l.2.to = eS ∧ l.2.args = [] ∧ l.1 ≠ 5
def clashN (X Y : List Ln) : Nat := (comm (setsL X) (touchL Y)).length + (comm (setsL Y) (touchL X)).length + (comm (sigsL X) (sigsL Y)).length
theorem setsL_bare {l : Ln} {xs : List Ln} (hl : bareL l) {x : ByteArray} : x ∈ setsL (l :: xs) ↔ x ∈ setsL xs := by
 simp only [mem_setsL, List.mem_cons]
 constructor
 ·rintro ⟨a, ha, e, hx⟩
  rcases ha with rfl | ha
  ·rw [hl.1] at e; subst e; exact absurd rfl hx
  ·exact ⟨a, ha, e, hx⟩
 ·rintro ⟨a, ha, e, hx⟩; exact ⟨a, .inr ha, e, hx⟩
theorem sigsL_bare {l : Ln} {xs : List Ln} (hl : bareL l) {x : ByteArray} : x ∈ sigsL (l :: xs) ↔ x ∈ sigsL xs := by
 simp only [mem_sigsL, List.mem_cons]
 constructor
 ·rintro ⟨a, ha, e, hx⟩
  rcases ha with rfl | ha
  ·exact absurd e hl.2.2
  ·exact ⟨a, ha, e, hx⟩
 ·rintro ⟨a, ha, e, hx⟩; exact ⟨a, .inr ha, e, hx⟩
theorem touchL_bare {l : Ln} {xs : List Ln} (hl : bareL l) {x : ByteArray} : x ∈ touchL (l :: xs) ↔ x ∈ touchL xs := by
 rw [mem_touchL, mem_touchL, setsL_bare hl]
 constructor
 ·rintro (h | ⟨a, ha, hx, hn⟩)
  ·exact .inl h
  ·rcases List.mem_cons.1 ha with rfl | ha
   ·rw [hl.2.1] at hx; cases hx
   ·exact .inr ⟨a, ha, hx, hn⟩
 ·rintro (h | ⟨a, ha, hx, hn⟩)
  ·exact .inl h
  ·exact .inr ⟨a, List.mem_cons_of_mem _ ha, hx, hn⟩
theorem meddB_iff {a b : Ln} : meddB a b = true ↔ a.2.to.size ≠ 0 ∧ (a.2.to = b.2.to ∨ a.2.to ∈ b.2.args) := by
 unfold meddB
 rw [isEmpty_toList, beq_toList]
 simp only [Bool.and_eq_true, Bool.not_eq_true', decide_eq_false_iff_not, Bool.or_eq_true, decide_eq_true_eq, hasB_iff]
theorem sigB_iff {a b : Ln} : sigB a b = true ↔ a.1 = 5 ∧ b.1 = 5 ∧ a.2.name = b.2.name := by
 unfold sigB
 rw [beq_toList]
 simp only [Bool.and_eq_true, beq_iff_eq, decide_eq_true_eq]
theorem sets_touch {xs ys : List Ln} (hx : ∀ a ∈ xs, a.2.to = eS ∨ nameB a.2.to = true) : (∃ x, x ∈ setsL xs ∧ x ∈ touchL ys) ↔ ∃ a ∈ xs, ∃ b ∈ ys, meddB a b = true := by
 constructor
 ·rintro ⟨x, h1, h2⟩
  obtain ⟨a, ha, rfl, hs⟩ := mem_setsL.1 h1
  rcases mem_touchL.1 h2 with h | ⟨b, hb, hm, _⟩
  ·obtain ⟨b, hb, e, _⟩ := mem_setsL.1 h
   exact ⟨a, ha, b, hb, meddB_iff.2 ⟨hs, .inl e.symm⟩⟩
  ·exact ⟨a, ha, b, hb, meddB_iff.2 ⟨hs, .inr hm⟩⟩
 ·rintro ⟨a, ha, b, hb, h⟩
  obtain ⟨hs, h⟩ := meddB_iff.1 h
  refine ⟨a.2.to, mem_setsL.2 ⟨a, ha, rfl, hs⟩, mem_touchL.2 ?_⟩
  rcases h with h | h
  ·exact .inl (mem_setsL.2 ⟨b, hb, h.symm, hs⟩)
  ·refine .inr ⟨b, hb, h, ?_⟩
   rcases hx a ha with e | e
   ·rw [e] at hs; exact absurd rfl hs
   ·exact e
theorem clash_iff {l m : Ln} {xs ys : List Ln} (hl : bareL l) (hm : bareL m) (hx : ∀ a ∈ xs, a.2.to = eS ∨ nameB a.2.to = true) (hy : ∀ a ∈ ys, a.2.to = eS ∨ nameB a.2.to = true) :
  0 < clashN (l :: xs) (m :: ys) ↔ clashB xs ys = true := by
 have e1 : 0 < (comm (setsL (l :: xs)) (touchL (m :: ys))).length ↔ ∃ a ∈ xs, ∃ b ∈ ys, meddB a b = true := by
  rw [comm_pos, ← sets_touch hx]
  simp only [setsL_bare hl, touchL_bare hm]
 have e2 : 0 < (comm (setsL (m :: ys)) (touchL (l :: xs))).length ↔ ∃ b ∈ ys, ∃ a ∈ xs, meddB b a = true := by
  rw [comm_pos, ← sets_touch hy]
  simp only [setsL_bare hm, touchL_bare hl]
 have e3 : 0 < (comm (sigsL (l :: xs)) (sigsL (m :: ys))).length ↔ ∃ a ∈ xs, ∃ b ∈ ys, sigB a b = true := by
  rw [comm_pos]
  simp only [sigsL_bare hl, sigsL_bare hm, mem_sigsL]
  constructor
  ·rintro ⟨x, ⟨a, ha, h5, e⟩, ⟨b, hb, h5', e'⟩⟩
   exact ⟨a, ha, b, hb, sigB_iff.2 ⟨h5, h5', e.trans e'.symm⟩⟩
  ·rintro ⟨a, ha, b, hb, h⟩
   obtain ⟨h5, h5', e⟩ := sigB_iff.1 h
   exact ⟨a.2.name, ⟨a, ha, h5, rfl⟩, ⟨b, hb, h5', e.symm⟩⟩
 have e4 : clashB xs ys = true ↔ ∃ a ∈ xs, ∃ b ∈ ys, (meddB a b = true ∨ meddB b a = true ∨ sigB a b = true) := by
  unfold clashB pairB
  simp only [List.any_eq_true, Bool.or_eq_true]
 rw [e4]
 unfold clashN
 constructor
 ·intro h
  have h' : 0 < (comm (setsL (l :: xs)) (touchL (m :: ys))).length ∨ 0 < (comm (setsL (m :: ys)) (touchL (l :: xs))).length ∨ 0 < (comm (sigsL (l :: xs)) (sigsL (m :: ys))).length := by omega
  rcases h' with h | h | h
  ·obtain ⟨a, ha, b, hb, h⟩ := e1.1 h; exact ⟨a, ha, b, hb, .inl h⟩
  ·obtain ⟨b, hb, a, ha, h⟩ := e2.1 h; exact ⟨a, ha, b, hb, .inr (.inl h)⟩
  ·obtain ⟨a, ha, b, hb, h⟩ := e3.1 h; exact ⟨a, ha, b, hb, .inr (.inr h)⟩
 ·rintro ⟨a, ha, b, hb, h | h | h⟩
  ·have := e1.2 ⟨a, ha, b, hb, h⟩; omega
  ·have := e2.2 ⟨b, hb, a, ha, h⟩; omega
  ·have := e3.2 ⟨a, ha, b, hb, h⟩; omega
def oK (o : Opn) : Int := if o.2 = true then (if o.1 = 9 then 10 else 7) else o.1
theorem step_first {f : Bool} {os : List Opn} {k : Int} (h : (k == 1) ≠ f) : stepO f os k = none := by
 unfold stepO
 have : ((k == 1) != f) = true := by simpa using h
 rw [if_neg]
 rw [standL, if_pos this]; simp
theorem step_open {f : Bool} {os : List Opn} {k : Int} (h : (k == 1) = f) (ho : opensK k = true) : stepO f os k = if 5 ≤ os.length then none else some (os ++ [(k, false)]) := by
 unfold stepO
 have : ¬ ((k == 1) != f) = true := by simp [h]
 rw [standL, if_neg this, if_pos ho]
 by_cases h5 : 5 ≤ os.length
 ·rw [if_pos h5, if_neg]; simp [ho, h5]
 ·rw [if_neg h5, if_pos]; simp; omega
theorem step_plain {f : Bool} {os : List Opn} {k : Int} (h : (k == 1) = f) (ho : opensK k = false) (hc : closesK k = false) : stepO f os k = some os := by
 have : ¬ ((k == 1) != f) = true := by simp [h]
 have e : standL os k f = (os, true) := by rw [standL, if_neg this, if_neg (by simp [ho]), if_pos (by simp [hc])]
 unfold stepO
 rw [e, if_pos]
 simp [ho]
theorem step_nil {k : Int} (hc : closesK k = true) : stepO false [] k = none := by
 cases h : stepO false [] k with
 | none => rfl
 | some x => exact absurd h (stepO_close_nil hc)
theorem step_else {os : List Opn} {o : Opn} : stepO false (os ++ [o]) 7 = if choiceK (oK o) = true then some (os ++ [(o.1, true)]) else none := by
 obtain ⟨x, t⟩ := o
 unfold stepO
 have e1 : standL (os ++ [(x, t)]) 7 false = (os ++ [(x, true)], choiceK x && !t) := by
  simp [standL, opensK, closesK, choiceK]
 rw [e1]
 have e2 : opensK 7 = false := rfl
 cases t with
 | true =>
  have : choiceK (oK (x, true)) = false := by
   simp only [oK, if_true]; split <;> rfl
  rw [this, if_neg (by simp), if_neg (by simp)]
 | false =>
  have : oK (x, false) = x := rfl
  rw [this]
  by_cases hx : choiceK x = true
  ·rw [if_pos (by simp [hx, e2]), if_pos hx]
  ·rw [if_neg (by simp [hx]), if_neg hx]
theorem step_and {os : List Opn} {o : Opn} : stepO false (os ++ [o]) 10 = if oK o = 9 then some (os ++ [(o.1, true)]) else none := by
 obtain ⟨x, t⟩ := o
 unfold stepO
 have e1 : standL (os ++ [(x, t)]) 10 false = (os ++ [(x, true)], (x == 9) && !t) := by
  simp [standL, opensK, closesK, choiceK]
 rw [e1]
 have e2 : opensK 10 = false := rfl
 cases t with
 | true =>
  have : ¬ oK (x, true) = 9 := by
   simp only [oK, if_true]; split <;> decide
  rw [if_neg this, if_neg (by simp)]
 | false =>
  have : oK (x, false) = x := rfl
  rw [this]
  by_cases hx : x = 9
  ·rw [if_pos (by simp [hx, e2]), if_pos hx]
  ·rw [if_neg (by simp [hx]), if_neg hx]
theorem step_end {os : List Opn} {o : Opn} : stepO false (os ++ [o]) 11 = if oK o = 9 then none else some os := by
 obtain ⟨x, t⟩ := o
 unfold stepO
 have e1 : standL (os ++ [(x, t)]) 11 false = (os, (x != 9) || t) := by
  simp [standL, opensK, closesK, choiceK]
 rw [e1]
 have e2 : opensK 11 = false := rfl
 cases t with
 | true =>
  have : ¬ oK (x, true) = 9 := by
   simp only [oK, if_true]; split <;> decide
  rw [if_neg this, if_pos (by simp [e2])]
 | false =>
  have : oK (x, false) = x := rfl
  rw [this]
  by_cases hx : x = 9
  ·rw [if_pos hx, if_neg (by simp [hx])]
  ·rw [if_neg hx, if_pos (by simp [hx, e2])]
end
end Go.Proofs.YtlbjjbolbopfmaaGreatDoor
