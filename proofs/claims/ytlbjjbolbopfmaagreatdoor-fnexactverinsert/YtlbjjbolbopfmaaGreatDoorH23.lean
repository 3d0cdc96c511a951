import Derived.Test.YtlbjjbolbopfmaaGreatDoorH22
namespace Go.Proofs.YtlbjjbolbopfmaaGreatDoor
set_option maxHeartbeats 8000000
set_option maxRecDepth 1000000
set_option linter.unusedVariables false
section
open Go.RowKit
theorem two_of {ws : List ByteArray} (h : ws.length = 2) : ∃ a b, ws = [a, b] := by
 match ws, h with
 | [a, b], _ => exact ⟨a, b, rfl⟩
theorem four_of {ws : List ByteArray} (h : ws.length = 4) : ∃ a b c d, ws = [a, b, c, d] := by
 match ws, h with
 | [a, b, c, d], _ => exact ⟨a, b, c, d, rfl⟩
theorem l1Made_get_len (ao : Option Addr) (c : Nat) (ws : List ByteArray) (w : World) (hl : ws.length ≤ 4398046511000) (h2 : ws.length ≠ 2) (h4 : ws.length ≠ 4) :
  Calls Tryz.prog 171 #[.int .i64 (5 : Nat), .slice ao ws.length c] w (MadeE w (5 : Nat) ws) := by
 have HN : Hid (readP ((5 : Nat) : Int) ws = none) := by
  show pGet ws = _
  match ws, h2, h4 with
  | [], _, _ => rfl
  | [_], _, _ => rfl
  | [_, _], h, _ => exact absurd rfl h
  | [_, _, _], _, _ => rfl
  | [_, _, _, _], _, h => exact absurd rfl h
  | _ :: _ :: _ :: _ :: _ :: _, _, _ => rfl
 have b2 : ((ws.length : Int) != 2) = true := by simp; omega
 have b4 : ((ws.length : Int) != 4) = true := by simp; omega
 clear h2 h4
 go_enter Tryz.func171, Tryz.ntmps171
 go_wp2
 refine bodyPost_ret (v := .tuple #[.agg #[.int .i64 _, .string ⟨#[]⟩, .string ⟨#[]⟩, .slice none 0 0, .string ⟨#[]⟩], .bool false]) (by simp [results, Tryz.results171, go_sem]; rfl) rfl ?_
 exact made_no (args := []) (below_two _ _ _) (Nat.le_refl _) (StrsAt.nil _ _ _ _) HN.out (Nat.zero_le _)
theorem l1Made_get2_a (g off c : Nat) (a b : ByteArray) (w : World) (hc : 2 ≤ c) (hz : ∀ s ∈ [a, b], s.size ≤ 4398046511104) (hi : StrsAt 0 w.heap.size w (some ⟨g, off, none⟩) [a, b]) (ha : nameB a = false) :
  Calls Tryz.prog 171 #[.int .i64 (5 : Nat), .slice (some ⟨g, off, none⟩) 2 c] w (MadeE w (5 : Nat) [a, b]) := by
 have HN : Hid (readP ((5 : Nat) : Int) [a, b] = none) := by show pGet [a, b] = _; rw [pGet]; exact if_neg (by rw [ha]; exact fun h => Bool.noConfusion h.1)
 obtain ⟨_, _, e0, hB, k0⟩ := hi.at 0 (by simp)
 cases e0
 have c0 : w.cell? ⟨g, off, none⟩ = some (.string a) := k0
 have z0 := hz a (by simp)
 obtain ⟨_, _, e1, _, k1⟩ := hi.at 1 (by simp)
 cases e1
 have c1 : w.cell? ⟨g, off + 1, none⟩ = some (.string b) := k1
 have z1 := hz b (by simp)
 have hb0 : g < w.heap.size := hB.2
 have HI : Hid (StrsAt 0 w.heap.size w (some ⟨g, off, none⟩) [a, b]) := hi
 clear hi hz k0 k1
 go_enter Tryz.func171, Tryz.ntmps171
 go_wp2_with ((go_at_call_of 140 a; refine (l1NameOk_any a _ (by omega)).mono ?_; rintro e wx ⟨rfl, rfl⟩; rw [ha]))
 refine bodyPost_ret (v := .tuple #[.agg #[.int .i64 _, .string ⟨#[]⟩, .string ⟨#[]⟩, .slice none 0 0, .string ⟨#[]⟩], .bool false]) (by simp [results, Tryz.results171, go_sem]; rfl) rfl ?_
 exact made_no (args := []) (below_two _ _ _) (Nat.le_refl _) (StrsAt.nil _ _ _ _) HN.out (Nat.zero_le _)
theorem l1Made_get2_b (g off c : Nat) (a b : ByteArray) (w : World) (hc : 2 ≤ c) (hz : ∀ s ∈ [a, b], s.size ≤ 4398046511104) (hi : StrsAt 0 w.heap.size w (some ⟨g, off, none⟩) [a, b]) (ha : nameB a = true) (hb : nameB b = false) :
  Calls Tryz.prog 171 #[.int .i64 (5 : Nat), .slice (some ⟨g, off, none⟩) 2 c] w (MadeE w (5 : Nat) [a, b]) := by
 have HN : Hid (readP ((5 : Nat) : Int) [a, b] = none) := by show pGet [a, b] = _; rw [pGet]; exact if_neg (by rw [hb]; exact fun h => Bool.noConfusion h.2)
 obtain ⟨_, _, e0, hB, k0⟩ := hi.at 0 (by simp)
 cases e0
 have c0 : w.cell? ⟨g, off, none⟩ = some (.string a) := k0
 have z0 := hz a (by simp)
 obtain ⟨_, _, e1, _, k1⟩ := hi.at 1 (by simp)
 cases e1
 have c1 : w.cell? ⟨g, off + 1, none⟩ = some (.string b) := k1
 have z1 := hz b (by simp)
 have hb0 : g < w.heap.size := hB.2
 have HI : Hid (StrsAt 0 w.heap.size w (some ⟨g, off, none⟩) [a, b]) := hi
 clear hi hz k0 k1
 go_enter Tryz.func171, Tryz.ntmps171
 go_wp2_with (first | (go_at_call_of 140 a; refine (l1NameOk_any a _ (by omega)).mono ?_; rintro e wx ⟨rfl, rfl⟩; rw [ha]) | (go_at_call_of 140 b; refine (l1NameOk_any b _ (by omega)).mono ?_; rintro e wx ⟨rfl, rfl⟩; rw [hb]))
 refine bodyPost_ret (v := .tuple #[.agg #[.int .i64 _, .string ⟨#[]⟩, .string ⟨#[]⟩, .slice none 0 0, .string ⟨#[]⟩], .bool false]) (by simp [results, Tryz.results171, go_sem]; rfl) rfl ?_
 exact made_no (args := []) (below_two _ _ _) (Nat.le_refl _) (StrsAt.nil _ _ _ _) HN.out (Nat.zero_le _)
theorem l1Made_get2_yes (g off c : Nat) (a b : ByteArray) (w : World) (hc : 2 ≤ c) (hz : ∀ s ∈ [a, b], s.size ≤ 4398046511104) (hi : StrsAt 0 w.heap.size w (some ⟨g, off, none⟩) [a, b]) (ha : nameB a = true) (hb : nameB b = true) :
  Calls Tryz.prog 171 #[.int .i64 (5 : Nat), .slice (some ⟨g, off, none⟩) 2 c] w (MadeE w (5 : Nat) [a, b]) := by
 have HN : Hid (readP ((5 : Nat) : Int) [a, b] = some ⟨a, b, [], eS⟩) := by show pGet [a, b] = _; rw [pGet]; exact if_pos (⟨ha, hb⟩)
 obtain ⟨_, _, e0, hB, k0⟩ := hi.at 0 (by simp)
 cases e0
 have c0 : w.cell? ⟨g, off, none⟩ = some (.string a) := k0
 have z0 := hz a (by simp)
 obtain ⟨_, _, e1, _, k1⟩ := hi.at 1 (by simp)
 cases e1
 have c1 : w.cell? ⟨g, off + 1, none⟩ = some (.string b) := k1
 have z1 := hz b (by simp)
 have hb0 : g < w.heap.size := hB.2
 have HI : Hid (StrsAt 0 w.heap.size w (some ⟨g, off, none⟩) [a, b]) := hi
 clear hi hz k0 k1
 go_enter Tryz.func171, Tryz.ntmps171
 go_wp2_with (first | (go_at_call_of 140 a; refine (l1NameOk_any a _ (by omega)).mono ?_; rintro e wx ⟨rfl, rfl⟩; rw [ha]) | (go_at_call_of 140 b; refine (l1NameOk_any b _ (by omega)).mono ?_; rintro e wx ⟨rfl, rfl⟩; rw [hb]))
 refine bodyPost_ret (v := .tuple #[.agg #[.int .i64 _, .string a, .string b, .slice none 0 0, .string ⟨#[]⟩], .bool true]) (by simp [results, Tryz.results171, go_sem]; rfl) rfl ?_
 exact made_yes (args := []) (below_two _ _ _) (Nat.le_refl _) (StrsAt.nil _ _ _ _) HN.out (Nat.zero_le _)
theorem l1Made_get4_a (g off c : Nat) (a b x d : ByteArray) (w : World) (hc : 4 ≤ c) (hz : ∀ s ∈ [a, b, x, d], s.size ≤ 4398046511104) (hi : StrsAt 0 w.heap.size w (some ⟨g, off, none⟩) [a, b, x, d]) (ha : nameB a = false) :
  Calls Tryz.prog 171 #[.int .i64 (5 : Nat), .slice (some ⟨g, off, none⟩) 4 c] w (MadeE w (5 : Nat) [a, b, x, d]) := by
 have HN : Hid (readP ((5 : Nat) : Int) [a, b, x, d] = none) := by show pGet [a, b, x, d] = _; rw [pGet]; exact if_neg (by rw [ha]; exact fun h => Bool.noConfusion h.1)
 obtain ⟨_, _, e0, hB, k0⟩ := hi.at 0 (by simp)
 cases e0
 have c0 : w.cell? ⟨g, off, none⟩ = some (.string a) := k0
 have z0 := hz a (by simp)
 obtain ⟨_, _, e1, _, k1⟩ := hi.at 1 (by simp)
 cases e1
 have c1 : w.cell? ⟨g, off + 1, none⟩ = some (.string b) := k1
 have z1 := hz b (by simp)
 obtain ⟨_, _, e2, _, k2⟩ := hi.at 2 (by simp)
 cases e2
 have c2 : w.cell? ⟨g, off + 2, none⟩ = some (.string x) := k2
 have z2 := hz x (by simp)
 obtain ⟨_, _, e3, _, k3⟩ := hi.at 3 (by simp)
 cases e3
 have c3 : w.cell? ⟨g, off + 3, none⟩ = some (.string d) := k3
 have z3 := hz d (by simp)
 have hb0 : g < w.heap.size := hB.2
 have HI : Hid (StrsAt 0 w.heap.size w (some ⟨g, off, none⟩) [a, b, x, d]) := hi
 clear hi hz k0 k1 k2 k3
 go_enter Tryz.func171, Tryz.ntmps171
 go_wp2_with ((go_at_call_of 140 a; refine (l1NameOk_any a _ (by omega)).mono ?_; rintro e wx ⟨rfl, rfl⟩; rw [ha]))
 refine bodyPost_ret (v := .tuple #[.agg #[.int .i64 _, .string ⟨#[]⟩, .string ⟨#[]⟩, .slice none 0 0, .string ⟨#[]⟩], .bool false]) (by simp [results, Tryz.results171, go_sem]; rfl) rfl ?_
 exact made_no (args := []) (below_two _ _ _) (Nat.le_refl _) (StrsAt.nil _ _ _ _) HN.out (Nat.zero_le _)
theorem l1Made_get4_b (g off c : Nat) (a b x d : ByteArray) (w : World) (hc : 4 ≤ c) (hz : ∀ s ∈ [a, b, x, d], s.size ≤ 4398046511104) (hi : StrsAt 0 w.heap.size w (some ⟨g, off, none⟩) [a, b, x, d]) (ha : nameB a = true) (hb : nameB b = false) :
  Calls Tryz.prog 171 #[.int .i64 (5 : Nat), .slice (some ⟨g, off, none⟩) 4 c] w (MadeE w (5 : Nat) [a, b, x, d]) := by
 have HN : Hid (readP ((5 : Nat) : Int) [a, b, x, d] = none) := by show pGet [a, b, x, d] = _; rw [pGet]; exact if_neg (by rw [hb]; exact fun h => Bool.noConfusion h.2.1)
 obtain ⟨_, _, e0, hB, k0⟩ := hi.at 0 (by simp)
 cases e0
 have c0 : w.cell? ⟨g, off, none⟩ = some (.string a) := k0
 have z0 := hz a (by simp)
 obtain ⟨_, _, e1, _, k1⟩ := hi.at 1 (by simp)
 cases e1
 have c1 : w.cell? ⟨g, off + 1, none⟩ = some (.string b) := k1
 have z1 := hz b (by simp)
 obtain ⟨_, _, e2, _, k2⟩ := hi.at 2 (by simp)
 cases e2
 have c2 : w.cell? ⟨g, off + 2, none⟩ = some (.string x) := k2
 have z2 := hz x (by simp)
 obtain ⟨_, _, e3, _, k3⟩ := hi.at 3 (by simp)
 cases e3
 have c3 : w.cell? ⟨g, off + 3, none⟩ = some (.string d) := k3
 have z3 := hz d (by simp)
 have hb0 : g < w.heap.size := hB.2
 have HI : Hid (StrsAt 0 w.heap.size w (some ⟨g, off, none⟩) [a, b, x, d]) := hi
 clear hi hz k0 k1 k2 k3
 go_enter Tryz.func171, Tryz.ntmps171
 go_wp2_with (first | (go_at_call_of 140 a; refine (l1NameOk_any a _ (by omega)).mono ?_; rintro e wx ⟨rfl, rfl⟩; rw [ha]) | (go_at_call_of 140 b; refine (l1NameOk_any b _ (by omega)).mono ?_; rintro e wx ⟨rfl, rfl⟩; rw [hb]))
 refine bodyPost_ret (v := .tuple #[.agg #[.int .i64 _, .string ⟨#[]⟩, .string ⟨#[]⟩, .slice none 0 0, .string ⟨#[]⟩], .bool false]) (by simp [results, Tryz.results171, go_sem]; rfl) rfl ?_
 exact made_no (args := []) (below_two _ _ _) (Nat.le_refl _) (StrsAt.nil _ _ _ _) HN.out (Nat.zero_le _)
theorem l1Made_get4_x (g off c : Nat) (a b x d : ByteArray) (w : World) (hc : 4 ≤ c) (hz : ∀ s ∈ [a, b, x, d], s.size ≤ 4398046511104) (hi : StrsAt 0 w.heap.size w (some ⟨g, off, none⟩) [a, b, x, d]) (ha : nameB a = true) (hb : nameB b = true) (hx : (x.toList == [102, 111, 114]) = false) :
  Calls Tryz.prog 171 #[.int .i64 (5 : Nat), .slice (some ⟨g, off, none⟩) 4 c] w (MadeE w (5 : Nat) [a, b, x, d]) := by
 have HN : Hid (readP ((5 : Nat) : Int) [a, b, x, d] = none) := by show pGet [a, b, x, d] = _; rw [pGet]; exact if_neg (by rw [hx]; exact fun h => Bool.noConfusion h.2.2.1)
 have hx2 : (x.toList != [102, 111, 114]) = true := by rw [bne, hx]; rfl
 obtain ⟨_, _, e0, hB, k0⟩ := hi.at 0 (by simp)
 cases e0
 have c0 : w.cell? ⟨g, off, none⟩ = some (.string a) := k0
 have z0 := hz a (by simp)
 obtain ⟨_, _, e1, _, k1⟩ := hi.at 1 (by simp)
 cases e1
 have c1 : w.cell? ⟨g, off + 1, none⟩ = some (.string b) := k1
 have z1 := hz b (by simp)
 obtain ⟨_, _, e2, _, k2⟩ := hi.at 2 (by simp)
 cases e2
 have c2 : w.cell? ⟨g, off + 2, none⟩ = some (.string x) := k2
 have z2 := hz x (by simp)
 obtain ⟨_, _, e3, _, k3⟩ := hi.at 3 (by simp)
 cases e3
 have c3 : w.cell? ⟨g, off + 3, none⟩ = some (.string d) := k3
 have z3 := hz d (by simp)
 have hb0 : g < w.heap.size := hB.2
 have HI : Hid (StrsAt 0 w.heap.size w (some ⟨g, off, none⟩) [a, b, x, d]) := hi
 clear hi hz k0 k1 k2 k3
 go_enter Tryz.func171, Tryz.ntmps171
 go_wp2_with (first | (go_at_call_of 140 a; refine (l1NameOk_any a _ (by omega)).mono ?_; rintro e wx ⟨rfl, rfl⟩; rw [ha]) | (go_at_call_of 140 b; refine (l1NameOk_any b _ (by omega)).mono ?_; rintro e wx ⟨rfl, rfl⟩; rw [hb]))
 refine bodyPost_ret (v := .tuple #[.agg #[.int .i64 _, .string ⟨#[]⟩, .string ⟨#[]⟩, .slice none 0 0, .string ⟨#[]⟩], .bool false]) (by simp [results, Tryz.results171, go_sem]; rfl) rfl ?_
 exact made_no (args := []) (below_two _ _ _) (Nat.le_refl _) (StrsAt.nil _ _ _ _) HN.out (Nat.zero_le _)
theorem l1Made_get4_d (g off c : Nat) (a b x d : ByteArray) (w : World) (hc : 4 ≤ c) (hz : ∀ s ∈ [a, b, x, d], s.size ≤ 4398046511104) (hi : StrsAt 0 w.heap.size w (some ⟨g, off, none⟩) [a, b, x, d]) (ha : nameB a = true) (hb : nameB b = true) (hx : (x.toList == [102, 111, 114]) = true) (hd : operB d = false) :
  Calls Tryz.prog 171 #[.int .i64 (5 : Nat), .slice (some ⟨g, off, none⟩) 4 c] w (MadeE w (5 : Nat) [a, b, x, d]) := by
 have HN : Hid (readP ((5 : Nat) : Int) [a, b, x, d] = none) := by show pGet [a, b, x, d] = _; rw [pGet]; exact if_neg (by rw [hd]; exact fun h => Bool.noConfusion h.2.2.2)
 have hx2 : (x.toList != [102, 111, 114]) = false := by rw [bne, hx]; rfl
 obtain ⟨_, _, e0, hB, k0⟩ := hi.at 0 (by simp)
 cases e0
 have c0 : w.cell? ⟨g, off, none⟩ = some (.string a) := k0
 have z0 := hz a (by simp)
 obtain ⟨_, _, e1, _, k1⟩ := hi.at 1 (by simp)
 cases e1
 have c1 : w.cell? ⟨g, off + 1, none⟩ = some (.string b) := k1
 have z1 := hz b (by simp)
 obtain ⟨_, _, e2, _, k2⟩ := hi.at 2 (by simp)
 cases e2
 have c2 : w.cell? ⟨g, off + 2, none⟩ = some (.string x) := k2
 have z2 := hz x (by simp)
 obtain ⟨_, _, e3, _, k3⟩ := hi.at 3 (by simp)
 cases e3
 have c3 : w.cell? ⟨g, off + 3, none⟩ = some (.string d) := k3
 have z3 := hz d (by simp)
 have hb0 : g < w.heap.size := hB.2
 have HI : Hid (StrsAt 0 w.heap.size w (some ⟨g, off, none⟩) [a, b, x, d]) := hi
 clear hi hz k0 k1 k2 k3
 go_enter Tryz.func171, Tryz.ntmps171
 go_wp2_with (first | (go_at_call_of 140 a; refine (l1NameOk_any a _ (by omega)).mono ?_; rintro e wx ⟨rfl, rfl⟩; rw [ha]) | (go_at_call_of 140 b; refine (l1NameOk_any b _ (by omega)).mono ?_; rintro e wx ⟨rfl, rfl⟩; rw [hb]) | (go_at_call_of 199 d; refine (l1Operand_any d _ (by omega)).mono ?_; rintro e wx ⟨rfl, rfl⟩; rw [hd]))
 refine bodyPost_ret (v := .tuple #[.agg #[.int .i64 _, .string ⟨#[]⟩, .string ⟨#[]⟩, .slice none 0 0, .string ⟨#[]⟩], .bool false]) (by simp [results, Tryz.results171, go_sem]; rfl) rfl ?_
 exact made_no (args := []) (below_two _ _ _) (Nat.le_refl _) (StrsAt.nil _ _ _ _) HN.out (Nat.zero_le _)
theorem l1Made_get4_yes (g off c : Nat) (a b x d : ByteArray) (w : World) (hc : 4 ≤ c) (hz : ∀ s ∈ [a, b, x, d], s.size ≤ 4398046511104) (hi : StrsAt 0 w.heap.size w (some ⟨g, off, none⟩) [a, b, x, d]) (ha : nameB a = true) (hb : nameB b = true) (hx : (x.toList == [102, 111, 114]) = true) (hd : operB d = true) :
  Calls Tryz.prog 171 #[.int .i64 (5 : Nat), .slice (some ⟨g, off, none⟩) 4 c] w (MadeE w (5 : Nat) [a, b, x, d]) := by
 have HN : Hid (readP ((5 : Nat) : Int) [a, b, x, d] = some ⟨a, b, [d], eS⟩) := by show pGet [a, b, x, d] = _; rw [pGet]; exact if_pos (⟨ha, hb, hx, hd⟩)
 have hx2 : (x.toList != [102, 111, 114]) = false := by rw [bne, hx]; rfl
 have HD : Hid (StrsAt 0 w.heap.size w (some ⟨g, off + 3, none⟩) [d]) := hi.drop 3
 obtain ⟨_, _, e0, hB, k0⟩ := hi.at 0 (by simp)
 cases e0
 have c0 : w.cell? ⟨g, off, none⟩ = some (.string a) := k0
 have z0 := hz a (by simp)
 obtain ⟨_, _, e1, _, k1⟩ := hi.at 1 (by simp)
 cases e1
 have c1 : w.cell? ⟨g, off + 1, none⟩ = some (.string b) := k1
 have z1 := hz b (by simp)
 obtain ⟨_, _, e2, _, k2⟩ := hi.at 2 (by simp)
 cases e2
 have c2 : w.cell? ⟨g, off + 2, none⟩ = some (.string x) := k2
 have z2 := hz x (by simp)
 obtain ⟨_, _, e3, _, k3⟩ := hi.at 3 (by simp)
 cases e3
 have c3 : w.cell? ⟨g, off + 3, none⟩ = some (.string d) := k3
 have z3 := hz d (by simp)
 have hb0 : g < w.heap.size := hB.2
 have HI : Hid (StrsAt 0 w.heap.size w (some ⟨g, off, none⟩) [a, b, x, d]) := hi
 clear hi hz k0 k1 k2 k3
 have hc3 : ¬ c = 3 := by omega
 go_enter Tryz.func171, Tryz.ntmps171
 go_wp2_with (first | (go_at_call_of 140 a; refine (l1NameOk_any a _ (by omega)).mono ?_; rintro e wx ⟨rfl, rfl⟩; rw [ha]) | (go_at_call_of 140 b; refine (l1NameOk_any b _ (by omega)).mono ?_; rintro e wx ⟨rfl, rfl⟩; rw [hb]) | (go_at_call_of 199 d; refine (l1Operand_any d _ (by omega)).mono ?_; rintro e wx ⟨rfl, rfl⟩; rw [hd]))
 refine bodyPost_ret (v := .tuple #[.agg #[.int .i64 _, .string a, .string b, .slice (some ⟨g, off + 3, none⟩) 1 (c - 3), .string ⟨#[]⟩], .bool true]) (by simp [results, Tryz.results171, go_sem]; rfl) rfl ?_
 exact made_yes (args := [d]) (below_two _ _ _) (by simp; omega) (HD.out.later (below_two _ _ _)) HN.out (by simp)
theorem l1Made_get (ao : Option Addr) (c : Nat) (ws : List ByteArray) (w : World) (hl : ws.length ≤ 4398046511000) (hc : ws.length ≤ c) (hz : ∀ s ∈ ws, s.size ≤ 4398046511104) (hi : StrsAt 0 w.heap.size w ao ws) :
  Calls Tryz.prog 171 #[.int .i64 (5 : Nat), .slice ao ws.length c] w (MadeE w (5 : Nat) ws) := by
 by_cases h2 : ws.length = 2
 ·obtain ⟨a, b, rfl⟩ := two_of h2
  obtain ⟨g, off, rfl, _⟩ := hi.at 0 (by simp)
  cases ha : nameB a with
  | false => exact l1Made_get2_a g off c a b w hc hz hi ha
  | true =>
   cases hb : nameB b with
   | false => exact l1Made_get2_b g off c a b w hc hz hi ha hb
   | true => exact l1Made_get2_yes g off c a b w hc hz hi ha hb
 by_cases h4 : ws.length = 4
 ·obtain ⟨a, b, x, d, rfl⟩ := four_of h4
  obtain ⟨g, off, rfl, _⟩ := hi.at 0 (by simp)
  cases ha : nameB a with
  | false => exact l1Made_get4_a g off c a b x d w hc hz hi ha
  | true =>
   cases hb : nameB b with
   | false => exact l1Made_get4_b g off c a b x d w hc hz hi ha hb
   | true =>
    cases hx : (x.toList == [102, 111, 114]) with
    | false => exact l1Made_get4_x g off c a b x d w hc hz hi ha hb hx
    | true =>
     cases hd : operB d with
     | false => exact l1Made_get4_d g off c a b x d w hc hz hi ha hb hx hd
     | true => exact l1Made_get4_yes g off c a b x d w hc hz hi ha hb hx hd
 ·exact l1Made_get_len ao c ws w hl h2 h4
end
section
open Go.RowKit
theorem has_tests (t : ByteArray) : hasB testsS t = testW t := by
 have e : ∀ l : List UInt8, decide ((⟨l.toArray⟩ : ByteArray) = t) = (t.toList == l) := fun l => by
  rw [beq_lit]
  by_cases h : t = ⟨l.toArray⟩
  ·rw [decide_eq_true h, decide_eq_true h.symm]
  ·rw [decide_eq_false h, decide_eq_false (fun x => h x.symm)]
 have e1 := e [108, 101, 115, 115]
 have e2 := e [115, 97, 109, 101]
 have e3 := e [109, 111, 114, 101]
 have e4 := e [111, 116, 104, 101, 114]
 unfold hasB testsS testW
 simp only [List.any_cons, List.any_nil, Bool.or_false]
 rw [← e1, ← e2, ← e3, ← e4]
theorem three_words {ws : List ByteArray} (h : ws.length = 3) : ∃ a b d, ws = [a, b, d] := by
 match ws, h with
 | [a, b, d], _ => exact ⟨a, b, d, rfl⟩
theorem row_made {w w1 : World} {a0 a1 a2 a3 a4 b0 b1 b2 b3 b4 : Value} {ss : List ByteArray} (h : Below ((w.alloc (.cells #[a0, a1, a2, a3, a4] 49)).alloc (.cells #[b0, b1, b2, b3, b4] 49)).drew.heap.size ((w.alloc (.cells #[a0, a1, a2, a3, a4] 49)).alloc (.cells #[b0, b1, b2, b3, b4] 49)).drew w1) (hs : StrsAt ((w.alloc (.cells #[a0, a1, a2, a3, a4] 49)).alloc (.cells #[b0, b1, b2, b3, b4] 49)).drew.heap.size w1.heap.size w1 (some ⟨((w.alloc (.cells #[a0, a1, a2, a3, a4] 49)).alloc (.cells #[b0, b1, b2, b3, b4] 49)).drew.heap.size, 0, none⟩) ss) :
  Hid (Below w.heap.size w w1) ∧ Hid (StrsAt 0 w1.heap.size w1 (some ⟨w.heap.size + 1 + 1, 0, none⟩) ss) ∧ (w.heap.size < w1.heap.size ∧ w.heap.size + 1 < w1.heap.size) ∧ (w1.cell? ⟨w.heap.size, 0, none⟩ = some a0 ∧ w1.cell? ⟨w.heap.size, 1, none⟩ = some a1 ∧ w1.cell? ⟨w.heap.size, 2, none⟩ = some a2 ∧ w1.cell? ⟨w.heap.size, 3, none⟩ = some a3 ∧ w1.cell? ⟨w.heap.size, 4, none⟩ = some a4)
  ∧ (w1.cell? ⟨w.heap.size + 1, 0, none⟩ = some b0 ∧ w1.cell? ⟨w.heap.size + 1, 1, none⟩ = some b1 ∧ w1.cell? ⟨w.heap.size + 1, 2, none⟩ = some b2 ∧ w1.cell? ⟨w.heap.size + 1, 3, none⟩ = some b3 ∧ w1.cell? ⟨w.heap.size + 1, 4, none⟩ = some b4)
  ∧ (∀ j, w1.frozen? ⟨w.heap.size, j, none⟩ = false) ∧ (∀ j, w1.frozen? ⟨w.heap.size + 1, j, none⟩ = false) := by
 have e : ((w.alloc (.cells #[a0, a1, a2, a3, a4] 49)).alloc (.cells #[b0, b1, b2, b3, b4] 49)).drew.heap.size = w.heap.size + 1 + 1 := by simp
 rw [e] at hs h
 have hc0 := fun j => h.cell (p := ⟨w.heap.size, j, none⟩) (by show w.heap.size < w.heap.size + 1 + 1; omega)
 have hc1 := fun j => h.cell (p := ⟨w.heap.size + 1, j, none⟩) (by show w.heap.size + 1 < w.heap.size + 1 + 1; omega)
 have hf0 := fun j => h.frozen (p := ⟨w.heap.size, j, none⟩) (by show w.heap.size < w.heap.size + 1 + 1; omega)
 have hf1 := fun j => h.frozen (p := ⟨w.heap.size + 1, j, none⟩) (by show w.heap.size + 1 < w.heap.size + 1 + 1; omega)
 refine ⟨(below_two w _ _).drew.trans (h.mono (by omega)), hs.mono (Nat.zero_le _) (Nat.le_refl _), by have := h.size; rw [e] at this; exact ⟨by omega, by omega⟩, ⟨?_, ?_, ?_, ?_, ?_⟩, ⟨?_, ?_, ?_, ?_, ?_⟩, fun j => ?_, fun j => ?_⟩
 all_goals first | (rw [hc0]; simp [go_sem]; done) | (rw [hc1]; simp [go_sem]; done) | (rw [hf0]; simp [go_sem]; done) | (rw [hf1]; simp [go_sem]; done)
theorem below_ret {w w1 : World} (h : Below w.heap.size w w1) (v0 v1 v2 v3 v4 : Value) : Below w.heap.size w (((((w1.setCell ⟨w.heap.size, 0, none⟩ v0).setCell ⟨w.heap.size, 1, none⟩ v1).setCell ⟨w.heap.size, 2, none⟩ v2).setCell ⟨w.heap.size, 3, none⟩ v3).setCell ⟨w.heap.size, 4, none⟩ v4) :=
 ((((h.setCell (Nat.le_refl _) _).setCell (Nat.le_refl _) _).setCell (Nat.le_refl _) _).setCell (Nat.le_refl _) _).setCell (Nat.le_refl _) _
theorem l1Made_test_len (k : Nat) (hk : k = 6 ∨ k = 8) (ao : Option Addr) (c : Nat) (ws : List ByteArray) (w : World) (hl : ws.length ≤ 4398046511000) (h3 : ws.length ≠ 3) :
  Calls Tryz.prog 171 #[.int .i64 k, .slice ao ws.length c] w (MadeE w k ws) := by
 have HN : Hid (readP (k : Int) ws = none) := by
  have : readP (k : Int) ws = pTest ws := by rcases hk with rfl | rfl <;> rfl
  show _ = _; rw [this]
  match ws, h3 with
  | [], _ => rfl
  | [_], _ => rfl
  | [_, _], _ => rfl
  | [_, _, _], h => exact absurd rfl h
  | _ :: _ :: _ :: _ :: _, _ => rfl
 have b3 : ((ws.length : Int) != 3) = true := by simp; omega
 clear h3
 rcases hk with rfl | rfl
 all_goals
  go_enter Tryz.func171, Tryz.ntmps171
  go_wp2_with fail
  go_region
  go_wp2_with fail
  refine bodyPost_ret (v := .tuple #[.agg #[.int .i64 _, .string ⟨#[]⟩, .string ⟨#[]⟩, .slice none 0 0, .string ⟨#[]⟩], .bool false]) (by simp [results, Tryz.results171, go_sem]; rfl) rfl ?_
  exact made_no (args := []) (below_two _ _ _).drew (Nat.le_refl _) (StrsAt.nil _ _ _ _) HN.out (Nat.zero_le _)
theorem test_end {w wx X : World} (hX : X.heap.size = wx.heap.size) (hB : Below w.heap.size w X) (a b : ByteArray) :
  Below w.heap.size w ((X.alloc (.cells #[.string a, .string b] 9)).drew) ∧ StrsAt 0 ((X.alloc (.cells #[.string a, .string b] 9)).drew).heap.size ((X.alloc (.cells #[.string a, .string b] 9)).drew) (some ⟨wx.heap.size, 0, none⟩) [a, b] := by
 have h := strs_alloc X [a, b] 9
 rw [hX] at h
 exact ⟨(hB.alloc hB.size _).drew, h.mono (Nat.zero_le _) (Nat.le_refl _)⟩
theorem ret5 {Y : World} {n : Nat} (hn : n < Y.heap.size) {x0 x1 x2 x3 x4 : Value} (h0 : Y.cell? ⟨n, 0, none⟩ = some x0) (h1 : Y.cell? ⟨n, 1, none⟩ = some x1) (h2 : Y.cell? ⟨n, 2, none⟩ = some x2) (h3 : Y.cell? ⟨n, 3, none⟩ = some x3) (h4 : Y.cell? ⟨n, 4, none⟩ = some x4) (v0 v1 v2 v3 v4 : Value) (o : Obj) :
  (((((((Y.setCell ⟨n, 0, none⟩ v0).setCell ⟨n, 1, none⟩ v1).setCell ⟨n, 2, none⟩ v2).setCell ⟨n, 3, none⟩ v3).setCell ⟨n, 4, none⟩ v4).alloc o).cell? ⟨n, 0, none⟩ = some v0)
  ∧ (((((((Y.setCell ⟨n, 0, none⟩ v0).setCell ⟨n, 1, none⟩ v1).setCell ⟨n, 2, none⟩ v2).setCell ⟨n, 3, none⟩ v3).setCell ⟨n, 4, none⟩ v4).alloc o).cell? ⟨n, 1, none⟩ = some v1)
  ∧ (((((((Y.setCell ⟨n, 0, none⟩ v0).setCell ⟨n, 1, none⟩ v1).setCell ⟨n, 2, none⟩ v2).setCell ⟨n, 3, none⟩ v3).setCell ⟨n, 4, none⟩ v4).alloc o).cell? ⟨n, 2, none⟩ = some v2)
  ∧ (((((((Y.setCell ⟨n, 0, none⟩ v0).setCell ⟨n, 1, none⟩ v1).setCell ⟨n, 2, none⟩ v2).setCell ⟨n, 3, none⟩ v3).setCell ⟨n, 4, none⟩ v4).alloc o).cell? ⟨n, 3, none⟩ = some v3)
  ∧ (((((((Y.setCell ⟨n, 0, none⟩ v0).setCell ⟨n, 1, none⟩ v1).setCell ⟨n, 2, none⟩ v2).setCell ⟨n, 3, none⟩ v3).setCell ⟨n, 4, none⟩ v4).alloc o).cell? ⟨n, 4, none⟩ = some v4) := by
 have hs : n < (((((Y.setCell ⟨n, 0, none⟩ v0).setCell ⟨n, 1, none⟩ v1).setCell ⟨n, 2, none⟩ v2).setCell ⟨n, 3, none⟩ v3).setCell ⟨n, 4, none⟩ v4).heap.size := by simpa [World.setCell] using hn
 refine ⟨?_, ?_, ?_, ?_, ?_⟩ <;> (rw [World.cell?_alloc_past _ _ _ hs]; simp [go_sem, h0, h1, h2, h3, h4])
end
section
open Go.RowKit
theorem l1Made_test_t (k : Nat) (hk : k = 6 ∨ k = 8) (g off c : Nat) (a t b : ByteArray) (w : World) (hc : 3 ≤ c) (hz : ∀ s ∈ [a, t, b], s.size ≤ 4398046511104) (hi : StrsAt 0 w.heap.size w (some ⟨g, off, none⟩) [a, t, b]) (ht : testW t = false) :
  Calls Tryz.prog 171 #[.int .i64 k, .slice (some ⟨g, off, none⟩) 3 c] w (MadeE w k [a, t, b]) := by
 have HN : Hid (readP (k : Int) [a, t, b] = none) := by
  have : readP (k : Int) [a, t, b] = pTest [a, t, b] := by rcases hk with rfl | rfl <;> rfl
  show _ = _; rw [this, pTest]; exact if_neg (by rw [ht]; exact fun h => Bool.noConfusion h.2.1)
 have hh : hasB testsS t = false := by rw [has_tests]; exact ht
 have za := hz a (by simp)
 have zb := hz b (by simp)
 obtain ⟨_, _, e0, hB, k0⟩ := hi.at 0 (by simp)
 cases e0
 have c0 : w.cell? ⟨g, off, none⟩ = some (.string a) := k0
 obtain ⟨_, _, e1, _, k1⟩ := hi.at 1 (by simp)
 cases e1
 have c1 : w.cell? ⟨g, off + 1, none⟩ = some (.string t) := k1
 obtain ⟨_, _, e2, _, k2⟩ := hi.at 2 (by simp)
 cases e2
 have c2 : w.cell? ⟨g, off + 2, none⟩ = some (.string b) := k2
 have hb0 : g < w.heap.size := hB.2
 clear hi hz k0 k1 k2
 rcases hk with rfl | rfl
 all_goals
  go_enter Tryz.func171, Tryz.ntmps171
  go_wp2_with fail
  first
   | go_region_with (first | (go_at_call 179; refine (l1Tests_any _).mono ?_; rintro e w1 ⟨rfl, hb1, hs1⟩; obtain ⟨HB1, HS1, ⟨hz1, hz2⟩, ⟨r0, r1, r2, r3, r4⟩, ⟨s0, s1, s2, s3, s4⟩, f0, f1⟩ := row_made hb1 hs1; have d0 := (HB1.out.cell (p := ⟨g, off, none⟩) hb0).trans c0; have d1 := (HB1.out.cell (p := ⟨g, off + 1, none⟩) hb0).trans c1; have d2 := (HB1.out.cell (p := ⟨g, off + 2, none⟩) hb0).trans c2; clear hb1 hs1) | (go_at_call 141; refine (l1Has_any _ 4 testsS t _ _ (by decide) HS1.out).mono ?_; rintro e w2 ⟨rfl, rfl⟩; rw [hh]))
   | fail
  all_goals
   go_wp2_with fail
   refine bodyPost_ret (v := .tuple #[.agg #[.int .i64 _, .string ⟨#[]⟩, .string ⟨#[]⟩, .slice none 0 0, .string ⟨#[]⟩], .bool false]) (by simp [results, Tryz.results171, go_sem, r0, r1, r2, r3, r4]; rfl) rfl ?_
   exact made_no (args := []) (below_ret HB1.out _ _ _ _ _) (Nat.le_refl _) (StrsAt.nil _ _ _ _) HN.out (Nat.zero_le _)
end
end Go.Proofs.YtlbjjbolbopfmaaGreatDoor
