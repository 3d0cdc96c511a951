import Derived.Test.YtlbjjbolbopfmaaGreatDoorJ22
namespace Go.Proofs.YtlbjjbolbopfmaaGreatDoor
set_option maxHeartbeats 4000000
set_option maxRecDepth 1000000
set_option linter.unusedVariables false
section
open Go.RowKit
theorem z_du (k : Nat) (hk : k = 4 ∨ k = 12 ∨ k = 13) (ao : Option Addr) (c : Nat) (ws : List ByteArray) (w : World) (hl : ws.length ≤ 4398046511000) (h1 : ¬ ws.length = 1) (hc : ws.length ≤ c) (hi : StrsAt 0 w.heap.size w ao ws) :
  Calls Tryz.prog 171 #[.int .i64 k, .slice ao ws.length c] w (z_bg w k ws) := by
 have HN : Hid (z_af (k : Int) ws = none) := by
  have : z_af (k : Int) ws = pOperand ws := by rcases hk with rfl | rfl | rfl <;> rfl
  show _ = _; rw [this, pOperand, if_neg h1]
 have HI : Hid (StrsAt 0 w.heap.size w ao ws) := hi
 have HC : Hid (ws.length ≤ c) := hc
 have h0 : ((ws.length : Int) == 1) = false := by simp; omega
 clear hi hc
 rcases hk with rfl | rfl | rfl
 all_goals
  go_enter Tryz.func171, Tryz.ntmps171
  go_wp2_with fail
  go_region
  go_wp2_with fail
  refine bodyPost_ret (v := .tuple #[.agg #[.int .i64 _, .string ⟨#[]⟩, .string ⟨#[]⟩, .slice ao ws.length c, .string ⟨#[]⟩], .bool false]) (by simp [results, Tryz.results171, go_sem]; rfl) rfl ?_
  exact z_aH (z_ab _ _ _).drew HC.out (HI.out.later (z_ab _ _ _).drew) HN.out (Nat.le_refl _)
theorem z_mE {ws : List ByteArray} (h : ws.length = 1) : ∃ x, ws = [x] := by
 match ws, h with
 | [x], _ => exact ⟨x, rfl⟩
theorem z_hS (ao : Option Addr) (c : Nat) (ws : List ByteArray) (w : World) (hl : ws.length ≤ 4398046511000) (hz : ∀ s ∈ ws, s.size ≤ 4398046511104) (hi : StrsAt 0 w.heap.size w ao ws) :
  Calls Tryz.prog 171 #[.int .i64 (14 : Nat), .slice ao ws.length c] w (z_bg w (14 : Nat) ws) := by
 by_cases h1 : ws.length = 1
 ·obtain ⟨x, rfl⟩ := z_mE h1
  obtain ⟨b, off, rfl, hB, hc⟩ := hi.at 0 (by simp)
  have hx := hz x (by simp)
  have c0 : w.cell? ⟨b, off, none⟩ = some (.string x) := hc
  have hb0 : b < w.heap.size := hB.2
  clear hi hz hc hl h1
  rw [List.length_singleton]
  cases hn : z_ac x with
  | true =>
   have HN : Hid (z_af ((14 : Nat) : Int) [x] = some ⟨eS, x, [], eS⟩) := by show pPatch [x] = _; rw [pPatch, if_pos hn]
   go_enter Tryz.func171, Tryz.ntmps171
   go_wp2_with (go_at_call 140; refine (z_a x _ (by omega)).mono ?_; rintro e wx ⟨rfl, rfl⟩; rw [hn])
   refine bodyPost_ret (v := .tuple #[.agg #[.int .i64 _, .string ⟨#[]⟩, .string x, .slice none 0 0, .string ⟨#[]⟩], .bool true]) (by simp [results, Tryz.results171, go_sem]; rfl) rfl ?_
   exact z_bG (args := []) (z_ab _ _ _) (Nat.le_refl _) (StrsAt.nil _ _ _ _) HN.out (Nat.zero_le _)
  | false =>
   have HN : Hid (z_af ((14 : Nat) : Int) [x] = none) := by show pPatch [x] = _; rw [pPatch, if_neg (by rw [hn]; exact Bool.noConfusion)]
   go_enter Tryz.func171, Tryz.ntmps171
   go_wp2_with (go_at_call 140; refine (z_a x _ (by omega)).mono ?_; rintro e wx ⟨rfl, rfl⟩; rw [hn])
   refine bodyPost_ret (v := .tuple #[.agg #[.int .i64 _, .string ⟨#[]⟩, .string ⟨#[]⟩, .slice none 0 0, .string ⟨#[]⟩], .bool false]) (by simp [results, Tryz.results171, go_sem]; rfl) rfl ?_
   exact z_aH (args := []) (z_ab _ _ _) (Nat.le_refl _) (StrsAt.nil _ _ _ _) HN.out (Nat.zero_le _)
 ·have HN : Hid (z_af ((14 : Nat) : Int) ws = none) := by
   show pPatch ws = _
   match ws, h1 with
   | [], _ => rfl
   | [x], h => exact absurd rfl h
   | _ :: _ :: _, _ => rfl
  have h0 : ((ws.length : Int) != 1) = true := by simp; omega
  clear hi hz h1
  go_enter Tryz.func171, Tryz.ntmps171
  go_wp2
  refine bodyPost_ret (v := .tuple #[.agg #[.int .i64 _, .string ⟨#[]⟩, .string ⟨#[]⟩, .slice none 0 0, .string ⟨#[]⟩], .bool false]) (by simp [results, Tryz.results171, go_sem]; rfl) rfl ?_
  exact z_aH (args := []) (z_ab _ _ _) (Nat.le_refl _) (StrsAt.nil _ _ _ _) HN.out (Nat.zero_le _)
theorem z_jG (ao : Option Addr) (c : Nat) (ws : List ByteArray) (w : World) (hl : ws.length ≤ 4398046511000) (hc : ws.length ≤ c) (hz : ∀ s ∈ ws, s.size ≤ 9223372036854775807) (hi : StrsAt 0 w.heap.size w ao ws) :
  Calls Tryz.prog 171 #[.int .i64 (15 : Nat), .slice ao ws.length c] w (z_bg w (15 : Nat) ws) := by
 have HI : Hid (StrsAt 0 w.heap.size w ao ws) := hi
 have HZ : Hid (∀ s ∈ ws, s.size ≤ 9223372036854775807) := hz
 have HC : Hid (ws.length ≤ c) := hc
 clear hi hz
 by_cases h3 : ws.length ≤ 3
 ·have h0 : decide ((ws.length : Int) ≤ 3) = true := by simp; omega
  cases ha : allB z_an ws with
  | true =>
   have HN : Hid (z_af ((15 : Nat) : Int) ws = some ⟨eS, eS, ws, eS⟩) := by show pNext ws = _; rw [pNext, if_pos ⟨h3, ha⟩]
   go_enter Tryz.func171, Tryz.ntmps171
   go_wp2_with fail
   go_region_with (go_at_call 197; refine (z_aV ao c ws w.heap.size _ (by omega) HZ.out (HI.out.below (z_ab _ _ _).drew)).mono ?_; rintro e wx ⟨rfl, rfl⟩; rw [ha])
   all_goals
    go_wp2_with fail
    refine bodyPost_ret (v := .tuple #[.agg #[.int .i64 _, .string ⟨#[]⟩, .string ⟨#[]⟩, .slice ao ws.length c, .string ⟨#[]⟩], .bool true]) (by simp [results, Tryz.results171, go_sem]; rfl) rfl ?_
    exact z_bG (z_ab _ _ _).drew HC.out (HI.out.later (z_ab _ _ _).drew) HN.out (Nat.le_refl _)
  | false =>
   have HN : Hid (z_af ((15 : Nat) : Int) ws = none) := by show pNext ws = _; rw [pNext, if_neg (fun h => by rw [ha] at h; exact Bool.noConfusion h.2)]
   go_enter Tryz.func171, Tryz.ntmps171
   go_wp2_with fail
   go_region_with (go_at_call 197; refine (z_aV ao c ws w.heap.size _ (by omega) HZ.out (HI.out.below (z_ab _ _ _).drew)).mono ?_; rintro e wx ⟨rfl, rfl⟩; rw [ha])
   all_goals
    go_wp2_with fail
    refine bodyPost_ret (v := .tuple #[.agg #[.int .i64 _, .string ⟨#[]⟩, .string ⟨#[]⟩, .slice ao ws.length c, .string ⟨#[]⟩], .bool false]) (by simp [results, Tryz.results171, go_sem]; rfl) rfl ?_
    exact z_aH (z_ab _ _ _).drew HC.out (HI.out.later (z_ab _ _ _).drew) HN.out (Nat.le_refl _)
 ·have h0 : decide ((ws.length : Int) ≤ 3) = false := by simp; omega
  have HN : Hid (z_af ((15 : Nat) : Int) ws = none) := by show pNext ws = _; rw [pNext, if_neg (fun h => h3 h.1)]
  go_enter Tryz.func171, Tryz.ntmps171
  go_wp2_with fail
  go_region
  all_goals
   go_wp2_with fail
   refine bodyPost_ret (v := .tuple #[.agg #[.int .i64 _, .string ⟨#[]⟩, .string ⟨#[]⟩, .slice ao ws.length c, .string ⟨#[]⟩], .bool false]) (by simp [results, Tryz.results171, go_sem]; rfl) rfl ?_
   exact z_aH (z_ab _ _ _).drew HC.out (HI.out.later (z_ab _ _ _).drew) HN.out (Nat.le_refl _)
end
section
open Go.RowKit
theorem z_nP {ws : List ByteArray} (h : ws.length = 2) : ∃ a b, ws = [a, b] := by
 match ws, h with
 | [a, b], _ => exact ⟨a, b, rfl⟩
theorem z_nD {ws : List ByteArray} (h : ws.length = 4) : ∃ a b c d, ws = [a, b, c, d] := by
 match ws, h with
 | [a, b, c, d], _ => exact ⟨a, b, c, d, rfl⟩
theorem z_fN (ao : Option Addr) (c : Nat) (ws : List ByteArray) (w : World) (hl : ws.length ≤ 4398046511000) (h2 : ws.length ≠ 2) (h4 : ws.length ≠ 4) :
  Calls Tryz.prog 171 #[.int .i64 (5 : Nat), .slice ao ws.length c] w (z_bg w (5 : Nat) ws) := by
 have HN : Hid (z_af ((5 : Nat) : Int) ws = none) := by
  show pGet ws = _
  match ws, h2, h4 with
  | [], _, _ => rfl
  | [_], _, _ => rfl
  | [_, _], h, _ => exact absurd rfl h
  | [_, _, _], _, _ => rfl
  | [_, _, _, _], _, h => exact absurd rfl h
  | _ :: _ :: _ :: _ :: _ :: _, _, _ => rfl
 have b2 : ((ws.length : Int) != 2) = true := by simp; omega
 have b4 : ((ws.length : Int) != 4) = true := by simp; omega
 clear h2 h4
 go_enter Tryz.func171, Tryz.ntmps171
 go_wp2
 refine bodyPost_ret (v := .tuple #[.agg #[.int .i64 _, .string ⟨#[]⟩, .string ⟨#[]⟩, .slice none 0 0, .string ⟨#[]⟩], .bool false]) (by simp [results, Tryz.results171, go_sem]; rfl) rfl ?_
 exact z_aH (args := []) (z_ab _ _ _) (Nat.le_refl _) (StrsAt.nil _ _ _ _) HN.out (Nat.zero_le _)
theorem z_hB (g off c : Nat) (a b : ByteArray) (w : World) (hc : 2 ≤ c) (hz : ∀ s ∈ [a, b], s.size ≤ 4398046511104) (hi : StrsAt 0 w.heap.size w (some ⟨g, off, none⟩) [a, b]) (ha : z_ac a = false) :
  Calls Tryz.prog 171 #[.int .i64 (5 : Nat), .slice (some ⟨g, off, none⟩) 2 c] w (z_bg w (5 : Nat) [a, b]) := by
 have HN : Hid (z_af ((5 : Nat) : Int) [a, b] = none) := by show pGet [a, b] = _; rw [pGet]; exact if_neg (by rw [ha]; exact fun h => Bool.noConfusion h.1)
 obtain ⟨_, _, e0, hB, k0⟩ := hi.at 0 (by simp)
 cases e0
 have c0 : w.cell? ⟨g, off, none⟩ = some (.string a) := k0
 have z0 := hz a (by simp)
 obtain ⟨_, _, e1, _, k1⟩ := hi.at 1 (by simp)
 cases e1
 have c1 : w.cell? ⟨g, off + 1, none⟩ = some (.string b) := k1
 have z1 := hz b (by simp)
 have hb0 : g < w.heap.size := hB.2
 have HI : Hid (StrsAt 0 w.heap.size w (some ⟨g, off, none⟩) [a, b]) := hi
 clear hi hz k0 k1
 go_enter Tryz.func171, Tryz.ntmps171
 go_wp2_with ((go_at_call_of 140 a; refine (z_a a _ (by omega)).mono ?_; rintro e wx ⟨rfl, rfl⟩; rw [ha]))
 refine bodyPost_ret (v := .tuple #[.agg #[.int .i64 _, .string ⟨#[]⟩, .string ⟨#[]⟩, .slice none 0 0, .string ⟨#[]⟩], .bool false]) (by simp [results, Tryz.results171, go_sem]; rfl) rfl ?_
 exact z_aH (args := []) (z_ab _ _ _) (Nat.le_refl _) (StrsAt.nil _ _ _ _) HN.out (Nat.zero_le _)
theorem z_hJ (g off c : Nat) (a b : ByteArray) (w : World) (hc : 2 ≤ c) (hz : ∀ s ∈ [a, b], s.size ≤ 4398046511104) (hi : StrsAt 0 w.heap.size w (some ⟨g, off, none⟩) [a, b]) (ha : z_ac a = true) (hb : z_ac b = false) :
  Calls Tryz.prog 171 #[.int .i64 (5 : Nat), .slice (some ⟨g, off, none⟩) 2 c] w (z_bg w (5 : Nat) [a, b]) := by
 have HN : Hid (z_af ((5 : Nat) : Int) [a, b] = none) := by show pGet [a, b] = _; rw [pGet]; exact if_neg (by rw [hb]; exact fun h => Bool.noConfusion h.2)
 obtain ⟨_, _, e0, hB, k0⟩ := hi.at 0 (by simp)
 cases e0
 have c0 : w.cell? ⟨g, off, none⟩ = some (.string a) := k0
 have z0 := hz a (by simp)
 obtain ⟨_, _, e1, _, k1⟩ := hi.at 1 (by simp)
 cases e1
 have c1 : w.cell? ⟨g, off + 1, none⟩ = some (.string b) := k1
 have z1 := hz b (by simp)
 have hb0 : g < w.heap.size := hB.2
 have HI : Hid (StrsAt 0 w.heap.size w (some ⟨g, off, none⟩) [a, b]) := hi
 clear hi hz k0 k1
 go_enter Tryz.func171, Tryz.ntmps171
 go_wp2_with (first | (go_at_call_of 140 a; refine (z_a a _ (by omega)).mono ?_; rintro e wx ⟨rfl, rfl⟩; rw [ha]) | (go_at_call_of 140 b; refine (z_a b _ (by omega)).mono ?_; rintro e wx ⟨rfl, rfl⟩; rw [hb]))
 refine bodyPost_ret (v := .tuple #[.agg #[.int .i64 _, .string ⟨#[]⟩, .string ⟨#[]⟩, .slice none 0 0, .string ⟨#[]⟩], .bool false]) (by simp [results, Tryz.results171, go_sem]; rfl) rfl ?_
 exact z_aH (args := []) (z_ab _ _ _) (Nat.le_refl _) (StrsAt.nil _ _ _ _) HN.out (Nat.zero_le _)
theorem z_e9 (g off c : Nat) (a b : ByteArray) (w : World) (hc : 2 ≤ c) (hz : ∀ s ∈ [a, b], s.size ≤ 4398046511104) (hi : StrsAt 0 w.heap.size w (some ⟨g, off, none⟩) [a, b]) (ha : z_ac a = true) (hb : z_ac b = true) :
  Calls Tryz.prog 171 #[.int .i64 (5 : Nat), .slice (some ⟨g, off, none⟩) 2 c] w (z_bg w (5 : Nat) [a, b]) := by
 have HN : Hid (z_af ((5 : Nat) : Int) [a, b] = some ⟨a, b, [], eS⟩) := by show pGet [a, b] = _; rw [pGet]; exact if_pos (⟨ha, hb⟩)
 obtain ⟨_, _, e0, hB, k0⟩ := hi.at 0 (by simp)
 cases e0
 have c0 : w.cell? ⟨g, off, none⟩ = some (.string a) := k0
 have z0 := hz a (by simp)
 obtain ⟨_, _, e1, _, k1⟩ := hi.at 1 (by simp)
 cases e1
 have c1 : w.cell? ⟨g, off + 1, none⟩ = some (.string b) := k1
 have z1 := hz b (by simp)
 have hb0 : g < w.heap.size := hB.2
 have HI : Hid (StrsAt 0 w.heap.size w (some ⟨g, off, none⟩) [a, b]) := hi
 clear hi hz k0 k1
 go_enter Tryz.func171, Tryz.ntmps171
 go_wp2_with (first | (go_at_call_of 140 a; refine (z_a a _ (by omega)).mono ?_; rintro e wx ⟨rfl, rfl⟩; rw [ha]) | (go_at_call_of 140 b; refine (z_a b _ (by omega)).mono ?_; rintro e wx ⟨rfl, rfl⟩; rw [hb]))
 refine bodyPost_ret (v := .tuple #[.agg #[.int .i64 _, .string a, .string b, .slice none 0 0, .string ⟨#[]⟩], .bool true]) (by simp [results, Tryz.results171, go_sem]; rfl) rfl ?_
 exact z_bG (args := []) (z_ab _ _ _) (Nat.le_refl _) (StrsAt.nil _ _ _ _) HN.out (Nat.zero_le _)
theorem z_gI (g off c : Nat) (a b x d : ByteArray) (w : World) (hc : 4 ≤ c) (hz : ∀ s ∈ [a, b, x, d], s.size ≤ 4398046511104) (hi : StrsAt 0 w.heap.size w (some ⟨g, off, none⟩) [a, b, x, d]) (ha : z_ac a = false) :
  Calls Tryz.prog 171 #[.int .i64 (5 : Nat), .slice (some ⟨g, off, none⟩) 4 c] w (z_bg w (5 : Nat) [a, b, x, d]) := by
 have HN : Hid (z_af ((5 : Nat) : Int) [a, b, x, d] = none) := by show pGet [a, b, x, d] = _; rw [pGet]; exact if_neg (by rw [ha]; exact fun h => Bool.noConfusion h.1)
 obtain ⟨_, _, e0, hB, k0⟩ := hi.at 0 (by simp)
 cases e0
 have c0 : w.cell? ⟨g, off, none⟩ = some (.string a) := k0
 have z0 := hz a (by simp)
 obtain ⟨_, _, e1, _, k1⟩ := hi.at 1 (by simp)
 cases e1
 have c1 : w.cell? ⟨g, off + 1, none⟩ = some (.string b) := k1
 have z1 := hz b (by simp)
 obtain ⟨_, _, e2, _, k2⟩ := hi.at 2 (by simp)
 cases e2
 have c2 : w.cell? ⟨g, off + 2, none⟩ = some (.string x) := k2
 have z2 := hz x (by simp)
 obtain ⟨_, _, e3, _, k3⟩ := hi.at 3 (by simp)
 cases e3
 have c3 : w.cell? ⟨g, off + 3, none⟩ = some (.string d) := k3
 have z3 := hz d (by simp)
 have hb0 : g < w.heap.size := hB.2
 have HI : Hid (StrsAt 0 w.heap.size w (some ⟨g, off, none⟩) [a, b, x, d]) := hi
 clear hi hz k0 k1 k2 k3
 go_enter Tryz.func171, Tryz.ntmps171
 go_wp2_with ((go_at_call_of 140 a; refine (z_a a _ (by omega)).mono ?_; rintro e wx ⟨rfl, rfl⟩; rw [ha]))
 refine bodyPost_ret (v := .tuple #[.agg #[.int .i64 _, .string ⟨#[]⟩, .string ⟨#[]⟩, .slice none 0 0, .string ⟨#[]⟩], .bool false]) (by simp [results, Tryz.results171, go_sem]; rfl) rfl ?_
 exact z_aH (args := []) (z_ab _ _ _) (Nat.le_refl _) (StrsAt.nil _ _ _ _) HN.out (Nat.zero_le _)
theorem z_gp (g off c : Nat) (a b x d : ByteArray) (w : World) (hc : 4 ≤ c) (hz : ∀ s ∈ [a, b, x, d], s.size ≤ 4398046511104) (hi : StrsAt 0 w.heap.size w (some ⟨g, off, none⟩) [a, b, x, d]) (ha : z_ac a = true) (hb : z_ac b = false) :
  Calls Tryz.prog 171 #[.int .i64 (5 : Nat), .slice (some ⟨g, off, none⟩) 4 c] w (z_bg w (5 : Nat) [a, b, x, d]) := by
 have HN : Hid (z_af ((5 : Nat) : Int) [a, b, x, d] = none) := by show pGet [a, b, x, d] = _; rw [pGet]; exact if_neg (by rw [hb]; exact fun h => Bool.noConfusion h.2.1)
 obtain ⟨_, _, e0, hB, k0⟩ := hi.at 0 (by simp)
 cases e0
 have c0 : w.cell? ⟨g, off, none⟩ = some (.string a) := k0
 have z0 := hz a (by simp)
 obtain ⟨_, _, e1, _, k1⟩ := hi.at 1 (by simp)
 cases e1
 have c1 : w.cell? ⟨g, off + 1, none⟩ = some (.string b) := k1
 have z1 := hz b (by simp)
 obtain ⟨_, _, e2, _, k2⟩ := hi.at 2 (by simp)
 cases e2
 have c2 : w.cell? ⟨g, off + 2, none⟩ = some (.string x) := k2
 have z2 := hz x (by simp)
 obtain ⟨_, _, e3, _, k3⟩ := hi.at 3 (by simp)
 cases e3
 have c3 : w.cell? ⟨g, off + 3, none⟩ = some (.string d) := k3
 have z3 := hz d (by simp)
 have hb0 : g < w.heap.size := hB.2
 have HI : Hid (StrsAt 0 w.heap.size w (some ⟨g, off, none⟩) [a, b, x, d]) := hi
 clear hi hz k0 k1 k2 k3
 go_enter Tryz.func171, Tryz.ntmps171
 go_wp2_with (first | (go_at_call_of 140 a; refine (z_a a _ (by omega)).mono ?_; rintro e wx ⟨rfl, rfl⟩; rw [ha]) | (go_at_call_of 140 b; refine (z_a b _ (by omega)).mono ?_; rintro e wx ⟨rfl, rfl⟩; rw [hb]))
 refine bodyPost_ret (v := .tuple #[.agg #[.int .i64 _, .string ⟨#[]⟩, .string ⟨#[]⟩, .slice none 0 0, .string ⟨#[]⟩], .bool false]) (by simp [results, Tryz.results171, go_sem]; rfl) rfl ?_
 exact z_aH (args := []) (z_ab _ _ _) (Nat.le_refl _) (StrsAt.nil _ _ _ _) HN.out (Nat.zero_le _)
theorem z_hK (g off c : Nat) (a b x d : ByteArray) (w : World) (hc : 4 ≤ c) (hz : ∀ s ∈ [a, b, x, d], s.size ≤ 4398046511104) (hi : StrsAt 0 w.heap.size w (some ⟨g, off, none⟩) [a, b, x, d]) (ha : z_ac a = true) (hb : z_ac b = true) (hx : (x.toList == [102, 111, 114]) = false) :
  Calls Tryz.prog 171 #[.int .i64 (5 : Nat), .slice (some ⟨g, off, none⟩) 4 c] w (z_bg w (5 : Nat) [a, b, x, d]) := by
 have HN : Hid (z_af ((5 : Nat) : Int) [a, b, x, d] = none) := by show pGet [a, b, x, d] = _; rw [pGet]; exact if_neg (by rw [hx]; exact fun h => Bool.noConfusion h.2.2.1)
 have hx2 : (x.toList != [102, 111, 114]) = true := by rw [bne, hx]; rfl
 obtain ⟨_, _, e0, hB, k0⟩ := hi.at 0 (by simp)
 cases e0
 have c0 : w.cell? ⟨g, off, none⟩ = some (.string a) := k0
 have z0 := hz a (by simp)
 obtain ⟨_, _, e1, _, k1⟩ := hi.at 1 (by simp)
 cases e1
 have c1 : w.cell? ⟨g, off + 1, none⟩ = some (.string b) := k1
 have z1 := hz b (by simp)
 obtain ⟨_, _, e2, _, k2⟩ := hi.at 2 (by simp)
 cases e2
 have c2 : w.cell? ⟨g, off + 2, none⟩ = some (.string x) := k2
 have z2 := hz x (by simp)
 obtain ⟨_, _, e3, _, k3⟩ := hi.at 3 (by simp)
 cases e3
 have c3 : w.cell? ⟨g, off + 3, none⟩ = some (.string d) := k3
 have z3 := hz d (by simp)
 have hb0 : g < w.heap.size := hB.2
 have HI : Hid (StrsAt 0 w.heap.size w (some ⟨g, off, none⟩) [a, b, x, d]) := hi
 clear hi hz k0 k1 k2 k3
 go_enter Tryz.func171, Tryz.ntmps171
 go_wp2_with (first | (go_at_call_of 140 a; refine (z_a a _ (by omega)).mono ?_; rintro e wx ⟨rfl, rfl⟩; rw [ha]) | (go_at_call_of 140 b; refine (z_a b _ (by omega)).mono ?_; rintro e wx ⟨rfl, rfl⟩; rw [hb]))
 refine bodyPost_ret (v := .tuple #[.agg #[.int .i64 _, .string ⟨#[]⟩, .string ⟨#[]⟩, .slice none 0 0, .string ⟨#[]⟩], .bool false]) (by simp [results, Tryz.results171, go_sem]; rfl) rfl ?_
 exact z_aH (args := []) (z_ab _ _ _) (Nat.le_refl _) (StrsAt.nil _ _ _ _) HN.out (Nat.zero_le _)
theorem z_hl (g off c : Nat) (a b x d : ByteArray) (w : World) (hc : 4 ≤ c) (hz : ∀ s ∈ [a, b, x, d], s.size ≤ 4398046511104) (hi : StrsAt 0 w.heap.size w (some ⟨g, off, none⟩) [a, b, x, d]) (ha : z_ac a = true) (hb : z_ac b = true) (hx : (x.toList == [102, 111, 114]) = true) (hd : z_an d = false) :
  Calls Tryz.prog 171 #[.int .i64 (5 : Nat), .slice (some ⟨g, off, none⟩) 4 c] w (z_bg w (5 : Nat) [a, b, x, d]) := by
 have HN : Hid (z_af ((5 : Nat) : Int) [a, b, x, d] = none) := by show pGet [a, b, x, d] = _; rw [pGet]; exact if_neg (by rw [hd]; exact fun h => Bool.noConfusion h.2.2.2)
 have hx2 : (x.toList != [102, 111, 114]) = false := by rw [bne, hx]; rfl
 obtain ⟨_, _, e0, hB, k0⟩ := hi.at 0 (by simp)
 cases e0
 have c0 : w.cell? ⟨g, off, none⟩ = some (.string a) := k0
 have z0 := hz a (by simp)
 obtain ⟨_, _, e1, _, k1⟩ := hi.at 1 (by simp)
 cases e1
 have c1 : w.cell? ⟨g, off + 1, none⟩ = some (.string b) := k1
 have z1 := hz b (by simp)
 obtain ⟨_, _, e2, _, k2⟩ := hi.at 2 (by simp)
 cases e2
 have c2 : w.cell? ⟨g, off + 2, none⟩ = some (.string x) := k2
 have z2 := hz x (by simp)
 obtain ⟨_, _, e3, _, k3⟩ := hi.at 3 (by simp)
 cases e3
 have c3 : w.cell? ⟨g, off + 3, none⟩ = some (.string d) := k3
 have z3 := hz d (by simp)
 have hb0 : g < w.heap.size := hB.2
 have HI : Hid (StrsAt 0 w.heap.size w (some ⟨g, off, none⟩) [a, b, x, d]) := hi
 clear hi hz k0 k1 k2 k3
 go_enter Tryz.func171, Tryz.ntmps171
 go_wp2_with (first | (go_at_call_of 140 a; refine (z_a a _ (by omega)).mono ?_; rintro e wx ⟨rfl, rfl⟩; rw [ha]) | (go_at_call_of 140 b; refine (z_a b _ (by omega)).mono ?_; rintro e wx ⟨rfl, rfl⟩; rw [hb]) | (go_at_call_of 199 d; refine (z_aK d _ (by omega)).mono ?_; rintro e wx ⟨rfl, rfl⟩; rw [hd]))
 refine bodyPost_ret (v := .tuple #[.agg #[.int .i64 _, .string ⟨#[]⟩, .string ⟨#[]⟩, .slice none 0 0, .string ⟨#[]⟩], .bool false]) (by simp [results, Tryz.results171, go_sem]; rfl) rfl ?_
 exact z_aH (args := []) (z_ab _ _ _) (Nat.le_refl _) (StrsAt.nil _ _ _ _) HN.out (Nat.zero_le _)
theorem z_fl (g off c : Nat) (a b x d : ByteArray) (w : World) (hc : 4 ≤ c) (hz : ∀ s ∈ [a, b, x, d], s.size ≤ 4398046511104) (hi : StrsAt 0 w.heap.size w (some ⟨g, off, none⟩) [a, b, x, d]) (ha : z_ac a = true) (hb : z_ac b = true) (hx : (x.toList == [102, 111, 114]) = true) (hd : z_an d = true) :
  Calls Tryz.prog 171 #[.int .i64 (5 : Nat), .slice (some ⟨g, off, none⟩) 4 c] w (z_bg w (5 : Nat) [a, b, x, d]) := by
 have HN : Hid (z_af ((5 : Nat) : Int) [a, b, x, d] = some ⟨a, b, [d], eS⟩) := by show pGet [a, b, x, d] = _; rw [pGet]; exact if_pos (⟨ha, hb, hx, hd⟩)
 have hx2 : (x.toList != [102, 111, 114]) = false := by rw [bne, hx]; rfl
 have HD : Hid (StrsAt 0 w.heap.size w (some ⟨g, off + 3, none⟩) [d]) := hi.drop 3
 obtain ⟨_, _, e0, hB, k0⟩ := hi.at 0 (by simp)
 cases e0
 have c0 : w.cell? ⟨g, off, none⟩ = some (.string a) := k0
 have z0 := hz a (by simp)
 obtain ⟨_, _, e1, _, k1⟩ := hi.at 1 (by simp)
 cases e1
 have c1 : w.cell? ⟨g, off + 1, none⟩ = some (.string b) := k1
 have z1 := hz b (by simp)
 obtain ⟨_, _, e2, _, k2⟩ := hi.at 2 (by simp)
 cases e2
 have c2 : w.cell? ⟨g, off + 2, none⟩ = some (.string x) := k2
 have z2 := hz x (by simp)
 obtain ⟨_, _, e3, _, k3⟩ := hi.at 3 (by simp)
 cases e3
 have c3 : w.cell? ⟨g, off + 3, none⟩ = some (.string d) := k3
 have z3 := hz d (by simp)
 have hb0 : g < w.heap.size := hB.2
 have HI : Hid (StrsAt 0 w.heap.size w (some ⟨g, off, none⟩) [a, b, x, d]) := hi
 clear hi hz k0 k1 k2 k3
 have hc3 : ¬ c = 3 := by omega
 go_enter Tryz.func171, Tryz.ntmps171
 go_wp2_with (first | (go_at_call_of 140 a; refine (z_a a _ (by omega)).mono ?_; rintro e wx ⟨rfl, rfl⟩; rw [ha]) | (go_at_call_of 140 b; refine (z_a b _ (by omega)).mono ?_; rintro e wx ⟨rfl, rfl⟩; rw [hb]) | (go_at_call_of 199 d; refine (z_aK d _ (by omega)).mono ?_; rintro e wx ⟨rfl, rfl⟩; rw [hd]))
 refine bodyPost_ret (v := .tuple #[.agg #[.int .i64 _, .string a, .string b, .slice (some ⟨g, off + 3, none⟩) 1 (c - 3), .string ⟨#[]⟩], .bool true]) (by simp [results, Tryz.results171, go_sem]; rfl) rfl ?_
 exact z_bG (args := [d]) (z_ab _ _ _) (by simp; omega) (HD.out.later (z_ab _ _ _)) HN.out (by simp)
theorem z_kq (ao : Option Addr) (c : Nat) (ws : List ByteArray) (w : World) (hl : ws.length ≤ 4398046511000) (hc : ws.length ≤ c) (hz : ∀ s ∈ ws, s.size ≤ 4398046511104) (hi : StrsAt 0 w.heap.size w ao ws) :
  Calls Tryz.prog 171 #[.int .i64 (5 : Nat), .slice ao ws.length c] w (z_bg w (5 : Nat) ws) := by
 by_cases h2 : ws.length = 2
 ·obtain ⟨a, b, rfl⟩ := z_nP h2
  obtain ⟨g, off, rfl, _⟩ := hi.at 0 (by simp)
  cases ha : z_ac a with
  | false => exact z_hB g off c a b w hc hz hi ha
  | true =>
   cases hb : z_ac b with
   | false => exact z_hJ g off c a b w hc hz hi ha hb
   | true => exact z_e9 g off c a b w hc hz hi ha hb
 by_cases h4 : ws.length = 4
 ·obtain ⟨a, b, x, d, rfl⟩ := z_nD h4
  obtain ⟨g, off, rfl, _⟩ := hi.at 0 (by simp)
  cases ha : z_ac a with
  | false => exact z_gI g off c a b x d w hc hz hi ha
  | true =>
   cases hb : z_ac b with
   | false => exact z_gp g off c a b x d w hc hz hi ha hb
   | true =>
    cases hx : (x.toList == [102, 111, 114]) with
    | false => exact z_hK g off c a b x d w hc hz hi ha hb hx
    | true =>
     cases hd : z_an d with
     | false => exact z_hl g off c a b x d w hc hz hi ha hb hx hd
     | true => exact z_fl g off c a b x d w hc hz hi ha hb hx hd
 ·exact z_fN ao c ws w hl h2 h4
end
section
open Go.RowKit
theorem z_c9 (t : ByteArray) : hasB z_cw t = z_cC t := by
 have e : ∀ l : List UInt8, decide ((⟨l.toArray⟩ : ByteArray) = t) = (t.toList == l) := fun l => by
  rw [z_lQ]
  by_cases h : t = ⟨l.toArray⟩
  ·rw [decide_eq_true h, decide_eq_true h.symm]
  ·rw [decide_eq_false h, decide_eq_false (fun x => h x.symm)]
 have e1 := e [108, 101, 115, 115]
 have e2 := e [115, 97, 109, 101]
 have e3 := e [109, 111, 114, 101]
 have e4 := e [111, 116, 104, 101, 114]
 unfold hasB z_cw z_cC
 simp only [List.any_cons, List.any_nil, Bool.or_false]
 rw [← e1, ← e2, ← e3, ← e4]
theorem z_ji {ws : List ByteArray} (h : ws.length = 3) : ∃ a b d, ws = [a, b, d] := by
 match ws, h with
 | [a, b, d], _ => exact ⟨a, b, d, rfl⟩
theorem z_by {w w1 : World} {a0 a1 a2 a3 a4 b0 b1 b2 b3 b4 : Value} {ss : List ByteArray} (h : Below ((w.alloc (.cells #[a0, a1, a2, a3, a4] 49)).alloc (.cells #[b0, b1, b2, b3, b4] 49)).drew.heap.size ((w.alloc (.cells #[a0, a1, a2, a3, a4] 49)).alloc (.cells #[b0, b1, b2, b3, b4] 49)).drew w1) (hs : StrsAt ((w.alloc (.cells #[a0, a1, a2, a3, a4] 49)).alloc (.cells #[b0, b1, b2, b3, b4] 49)).drew.heap.size w1.heap.size w1 (some ⟨((w.alloc (.cells #[a0, a1, a2, a3, a4] 49)).alloc (.cells #[b0, b1, b2, b3, b4] 49)).drew.heap.size, 0, none⟩) ss) :
  Hid (Below w.heap.size w w1) ∧ Hid (StrsAt 0 w1.heap.size w1 (some ⟨w.heap.size + 1 + 1, 0, none⟩) ss) ∧ (w.heap.size < w1.heap.size ∧ w.heap.size + 1 < w1.heap.size) ∧ (w1.cell? ⟨w.heap.size, 0, none⟩ = some a0 ∧ w1.cell? ⟨w.heap.size, 1, none⟩ = some a1 ∧ w1.cell? ⟨w.heap.size, 2, none⟩ = some a2 ∧ w1.cell? ⟨w.heap.size, 3, none⟩ = some a3 ∧ w1.cell? ⟨w.heap.size, 4, none⟩ = some a4)
  ∧ (w1.cell? ⟨w.heap.size + 1, 0, none⟩ = some b0 ∧ w1.cell? ⟨w.heap.size + 1, 1, none⟩ = some b1 ∧ w1.cell? ⟨w.heap.size + 1, 2, none⟩ = some b2 ∧ w1.cell? ⟨w.heap.size + 1, 3, none⟩ = some b3 ∧ w1.cell? ⟨w.heap.size + 1, 4, none⟩ = some b4)
  ∧ (∀ j, w1.frozen? ⟨w.heap.size, j, none⟩ = false) ∧ (∀ j, w1.frozen? ⟨w.heap.size + 1, j, none⟩ = false) := by
 have e : ((w.alloc (.cells #[a0, a1, a2, a3, a4] 49)).alloc (.cells #[b0, b1, b2, b3, b4] 49)).drew.heap.size = w.heap.size + 1 + 1 := by simp
 rw [e] at hs h
 have hc0 := fun j => h.cell (p := ⟨w.heap.size, j, none⟩) (by show w.heap.size < w.heap.size + 1 + 1; omega)
 have hc1 := fun j => h.cell (p := ⟨w.heap.size + 1, j, none⟩) (by show w.heap.size + 1 < w.heap.size + 1 + 1; omega)
 have hf0 := fun j => h.frozen (p := ⟨w.heap.size, j, none⟩) (by show w.heap.size < w.heap.size + 1 + 1; omega)
 have hf1 := fun j => h.frozen (p := ⟨w.heap.size + 1, j, none⟩) (by show w.heap.size + 1 < w.heap.size + 1 + 1; omega)
 refine ⟨(z_ab w _ _).drew.trans (h.mono (by omega)), hs.mono (Nat.zero_le _) (Nat.le_refl _), by have := h.size; rw [e] at this; exact ⟨by omega, by omega⟩, ⟨?_, ?_, ?_, ?_, ?_⟩, ⟨?_, ?_, ?_, ?_, ?_⟩, fun j => ?_, fun j => ?_⟩
 all_goals first | (rw [hc0]; simp [go_sem]; done) | (rw [hc1]; simp [go_sem]; done) | (rw [hf0]; simp [go_sem]; done) | (rw [hf1]; simp [go_sem]; done)
theorem z_az {w w1 : World} (h : Below w.heap.size w w1) (v0 v1 v2 v3 v4 : Value) : Below w.heap.size w (((((w1.setCell ⟨w.heap.size, 0, none⟩ v0).setCell ⟨w.heap.size, 1, none⟩ v1).setCell ⟨w.heap.size, 2, none⟩ v2).setCell ⟨w.heap.size, 3, none⟩ v3).setCell ⟨w.heap.size, 4, none⟩ v4) :=
 ((((h.setCell (Nat.le_refl _) _).setCell (Nat.le_refl _) _).setCell (Nat.le_refl _) _).setCell (Nat.le_refl _) _).setCell (Nat.le_refl _) _
theorem z_e1 (k : Nat) (hk : k = 6 ∨ k = 8) (ao : Option Addr) (c : Nat) (ws : List ByteArray) (w : World) (hl : ws.length ≤ 4398046511000) (h3 : ws.length ≠ 3) :
  Calls Tryz.prog 171 #[.int .i64 k, .slice ao ws.length c] w (z_bg w k ws) := by
 have HN : Hid (z_af (k : Int) ws = none) := by
  have : z_af (k : Int) ws = pTest ws := by rcases hk with rfl | rfl <;> rfl
  show _ = _; rw [this]
  match ws, h3 with
  | [], _ => rfl
  | [_], _ => rfl
  | [_, _], _ => rfl
  | [_, _, _], h => exact absurd rfl h
  | _ :: _ :: _ :: _ :: _, _ => rfl
 have b3 : ((ws.length : Int) != 3) = true := by simp; omega
 clear h3
 rcases hk with rfl | rfl
 all_goals
  go_enter Tryz.func171, Tryz.ntmps171
  go_wp2_with fail
  go_region
  go_wp2_with fail
  refine bodyPost_ret (v := .tuple #[.agg #[.int .i64 _, .string ⟨#[]⟩, .string ⟨#[]⟩, .slice none 0 0, .string ⟨#[]⟩], .bool false]) (by simp [results, Tryz.results171, go_sem]; rfl) rfl ?_
  exact z_aH (args := []) (z_ab _ _ _).drew (Nat.le_refl _) (StrsAt.nil _ _ _ _) HN.out (Nat.zero_le _)
theorem z_kf {w wx X : World} (hX : X.heap.size = wx.heap.size) (hB : Below w.heap.size w X) (a b : ByteArray) :
  Below w.heap.size w ((X.alloc (.cells #[.string a, .string b] 9)).drew) ∧ StrsAt 0 ((X.alloc (.cells #[.string a, .string b] 9)).drew).heap.size ((X.alloc (.cells #[.string a, .string b] 9)).drew) (some ⟨wx.heap.size, 0, none⟩) [a, b] := by
 have h := z_cm X [a, b] 9
 rw [hX] at h
 exact ⟨(hB.alloc hB.size _).drew, h.mono (Nat.zero_le _) (Nat.le_refl _)⟩
theorem ret5 {Y : World} {n : Nat} (hn : n < Y.heap.size) {x0 x1 x2 x3 x4 : Value} (h0 : Y.cell? ⟨n, 0, none⟩ = some x0) (h1 : Y.cell? ⟨n, 1, none⟩ = some x1) (h2 : Y.cell? ⟨n, 2, none⟩ = some x2) (h3 : Y.cell? ⟨n, 3, none⟩ = some x3) (h4 : Y.cell? ⟨n, 4, none⟩ = some x4) (v0 v1 v2 v3 v4 : Value) (o : Obj) :
  (((((((Y.setCell ⟨n, 0, none⟩ v0).setCell ⟨n, 1, none⟩ v1).setCell ⟨n, 2, none⟩ v2).setCell ⟨n, 3, none⟩ v3).setCell ⟨n, 4, none⟩ v4).alloc o).cell? ⟨n, 0, none⟩ = some v0)
  ∧ (((((((Y.setCell ⟨n, 0, none⟩ v0).setCell ⟨n, 1, none⟩ v1).setCell ⟨n, 2, none⟩ v2).setCell ⟨n, 3, none⟩ v3).setCell ⟨n, 4, none⟩ v4).alloc o).cell? ⟨n, 1, none⟩ = some v1)
  ∧ (((((((Y.setCell ⟨n, 0, none⟩ v0).setCell ⟨n, 1, none⟩ v1).setCell ⟨n, 2, none⟩ v2).setCell ⟨n, 3, none⟩ v3).setCell ⟨n, 4, none⟩ v4).alloc o).cell? ⟨n, 2, none⟩ = some v2)
  ∧ (((((((Y.setCell ⟨n, 0, none⟩ v0).setCell ⟨n, 1, none⟩ v1).setCell ⟨n, 2, none⟩ v2).setCell ⟨n, 3, none⟩ v3).setCell ⟨n, 4, none⟩ v4).alloc o).cell? ⟨n, 3, none⟩ = some v3)
  ∧ (((((((Y.setCell ⟨n, 0, none⟩ v0).setCell ⟨n, 1, none⟩ v1).setCell ⟨n, 2, none⟩ v2).setCell ⟨n, 3, none⟩ v3).setCell ⟨n, 4, none⟩ v4).alloc o).cell? ⟨n, 4, none⟩ = some v4) := by
 have hs : n < (((((Y.setCell ⟨n, 0, none⟩ v0).setCell ⟨n, 1, none⟩ v1).setCell ⟨n, 2, none⟩ v2).setCell ⟨n, 3, none⟩ v3).setCell ⟨n, 4, none⟩ v4).heap.size := by simpa [World.setCell] using hn
 refine ⟨?_, ?_, ?_, ?_, ?_⟩ <;> (rw [World.cell?_alloc_past _ _ _ hs]; simp [go_sem, h0, h1, h2, h3, h4])
end
section
open Go.RowKit
theorem z_bw (ao : Option Addr) (cap n : Nat) (ss : List ByteArray) (B : Nat) (w : World) (hn : n = ss.length) (hl : ss.length ≤ 9223372036854775807) (hs : ∀ s ∈ ss, s.size ≤ 9223372036854775807) (hi : StrsAt 0 B w ao ss) :
  Calls Tryz.prog 197 #[.slice ao n cap] w fun e w' => e = .returned (.bool (allB z_an ss)) ∧ w' = w := by
 subst hn; exact z_aV ao cap ss B w hl hs hi
def DoE (B : Nat) (w : World) (ws : List ByteArray) (e : Ending) (w' : World) : Prop :=
 Below w.heap.size w w' ∧ ∃ (tt nm ud : ByteArray) (args : List ByteArray) (ao : Option Addr) (cap : Nat) (ok : Bool), e = .returned (.tuple #[.agg #[.int .i64 (3 : Nat), .string tt, .string nm, .slice ao args.length cap, .string ud], .bool ok]) ∧ args.length ≤ cap ∧ args.length ≤ ws.length ∧ StrsAt 0 B w' ao args ∧ (ok = true → z_af ((3 : Nat) : Int) ws = some ⟨tt, nm, args, ud⟩) ∧ (ok = false → z_af ((3 : Nat) : Int) ws = none)
theorem z_kh {B : Nat} {w w' : World} {ws args : List ByteArray} {tt nm ud : ByteArray} {ao : Option Addr} {cap : Nat} (hb : Below w.heap.size w w') (hc : args.length ≤ cap) (hs : StrsAt 0 B w' ao args) (hr : z_af ((3 : Nat) : Int) ws = some ⟨tt, nm, args, ud⟩) (hle : args.length ≤ ws.length) :
  DoE B w ws (.returned (.tuple #[.agg #[.int .i64 (3 : Nat), .string tt, .string nm, .slice ao args.length cap, .string ud], .bool true])) w' :=
 ⟨hb, tt, nm, ud, args, ao, cap, true, rfl, hc, hle, hs, fun _ => hr, fun h => Bool.noConfusion h⟩
theorem z_ee {B : Nat} {w w' : World} {ws args : List ByteArray} {tt nm ud : ByteArray} {ao : Option Addr} {cap : Nat} (hb : Below w.heap.size w w') (hc : args.length ≤ cap) (hs : StrsAt 0 B w' ao args) (hr : z_af ((3 : Nat) : Int) ws = none) (hle : args.length ≤ ws.length) :
  DoE B w ws (.returned (.tuple #[.agg #[.int .i64 (3 : Nat), .string tt, .string nm, .slice ao args.length cap, .string ud], .bool false])) w' :=
 ⟨hb, tt, nm, ud, args, ao, cap, false, rfl, hc, hle, hs, fun h => Bool.noConfusion h, fun _ => hr⟩
theorem z_bE {ws : List ByteArray} (h : z_aJ ws = false) : pDo ws = pDo0 ws eS := by rw [pDo, if_neg (by rw [h]; exact Bool.noConfusion)]
theorem z_kx (ao : Option Addr) (c : Nat) (ws : List ByteArray) (B : Nat) (w : World) (h2 : ws.length < 2) :
  Calls Tryz.prog 198 #[.agg #[.int .i64 (3 : Nat), .string ⟨#[]⟩, .string ⟨#[]⟩, .slice none 0 0, .string ⟨#[]⟩], .slice ao (ws.length) c] w (DoE B w ws) := by
 have HN : Hid (z_af ((3 : Nat) : Int) ws = none) := by
  show pDo ws = _
  match ws, h2 with
  | [], _ => rfl
  | [_], _ => rfl
  | _ :: _ :: _, h => simp at h; omega
 have q3 : ¬ (3 : Int) < ws.length := by omega
 have q2 : (ws.length : Int) < 2 := by omega
 clear h2
 go_enter Tryz.func198, Tryz.ntmps198
 go_wp2
 refine bodyPost_ret (v := .tuple #[.agg #[.int .i64 _, .string ⟨#[]⟩, .string ⟨#[]⟩, .slice none 0 0, .string ⟨#[]⟩], .bool false]) (by simp [results, Tryz.results198, go_sem]; rfl) rfl ?_
 exact z_ee (args := []) (z_ab _ _ _) (Nat.le_refl _) (StrsAt.nil _ _ _ _) HN.out (Nat.zero_le _)
end
end Go.Proofs.YtlbjjbolbopfmaaGreatDoor
