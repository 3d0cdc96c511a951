import Derived.Test.YtlbjjbolbopfmaaGreatDoorI24
import Derived.Test.YtlbjjbolbopfmaaGreatDoorI21
namespace Go.Proofs.YtlbjjbolbopfmaaGreatDoor
set_option maxHeartbeats 4000000
set_option maxRecDepth 1000000
set_option linter.unusedVariables false
section
open Go.RowKit
theorem z_nE (g off c : Nat) (a b : ByteArray) (r : List ByteArray) (B : Nat) (w : World) (hBB : B ≤ w.heap.size) (hl : r.length ≤ 4398046511000) (hc : r.length + 2 ≤ c) (hz : ∀ s ∈ a :: b :: r, s.size ≤ 4398046511104) (hi : StrsAt 0 B w (some ⟨g, off, none⟩) (a :: b :: r)) (u : ByteArray) (hn : z_aJ (a :: b :: r) = false) (h3 : 2 ≤ r.length) (hu0 : (a :: b :: r)[r.length]'(by simp; omega) = u) (hu : (u.toList == [117, 110, 100, 111]) = false) (hr : 3 < r.length) :
  Calls Tryz.prog 198 #[.agg #[.int .i64 (3 : Nat), .string ⟨#[]⟩, .string ⟨#[]⟩, .slice none 0 0, .string ⟨#[]⟩], .slice (some ⟨g, off, none⟩) (r.length + 2) c] w (DoE B w (a :: b :: r)) := by
 have HN : Hid (z_af ((3 : Nat) : Int) (a :: b :: r) = none) := by show pDo (a :: b :: r) = _; rw [z_bD hn, pDo0]; exact if_neg (fun h => by have := h.2.2.1; omega)
 have q3 : (3 : Int) < r.length + 2 := by omega
 have q2 : ¬ (r.length : Int) + 2 < 2 := by omega
 have q5 : (5 : Int) < r.length + 2 := by omega
 have za := hz a (by simp)
 have zb := hz b (by simp)
 obtain ⟨_, _, e0, hB, k0⟩ := hi.at 0 (by simp)
 cases e0
 have c0 : w.cell? ⟨g, off, none⟩ = some (.string a) := k0
 obtain ⟨_, _, e1, _, k1⟩ := hi.at 1 (by simp)
 cases e1
 have c1 : w.cell? ⟨g, off + 1, none⟩ = some (.string b) := k1
 have hb0 : g < w.heap.size := Nat.lt_of_lt_of_le hB.2 hBB
 have HZ : Hid (∀ s ∈ r, s.size ≤ 9223372036854775807) := fun s hs => by have := hz s (by simp [hs]); omega
 have HD : Hid (StrsAt 0 B w (some ⟨g, off + 2, none⟩) r) := hi.drop 2
 have cu : w.cell? ⟨g, off + r.length, none⟩ = some (.string u) := by
  obtain ⟨_, _, e1, _, hc1⟩ := hi.at r.length (by simp; omega)
  cases e1
  rw [hc1]; rw [hu0]
 clear hi hz k0 k1
 go_enter Tryz.func198, Tryz.ntmps198
 go_wp2_with (first | fail)
 refine bodyPost_ret (v := .tuple #[.agg #[.int .i64 _, .string ⟨#[]⟩, .string ⟨#[]⟩, .slice none 0 0, .string ⟨#[]⟩], .bool false]) (by simp [results, Tryz.results198, go_sem]; rfl) rfl ?_
 exact z_d2 (args := []) (z_ab _ _ _) (Nat.le_refl _) (StrsAt.nil _ _ _ _) HN.out (Nat.zero_le _)
theorem z_m8 (g off c : Nat) (a b : ByteArray) (r : List ByteArray) (B : Nat) (w : World) (hBB : B ≤ w.heap.size) (hl : r.length ≤ 4398046511000) (hc : r.length + 2 ≤ c) (hz : ∀ s ∈ a :: b :: r, s.size ≤ 4398046511104) (hi : StrsAt 0 B w (some ⟨g, off, none⟩) (a :: b :: r)) (u : ByteArray) (hn : z_aJ (a :: b :: r) = false) (h3 : 2 ≤ r.length) (hu0 : (a :: b :: r)[r.length]'(by simp; omega) = u) (hu : (u.toList == [117, 110, 100, 111]) = false) (hr : r.length ≤ 3) (ha : z_ac a = false) :
  Calls Tryz.prog 198 #[.agg #[.int .i64 (3 : Nat), .string ⟨#[]⟩, .string ⟨#[]⟩, .slice none 0 0, .string ⟨#[]⟩], .slice (some ⟨g, off, none⟩) (r.length + 2) c] w (DoE B w (a :: b :: r)) := by
 have HN : Hid (z_af ((3 : Nat) : Int) (a :: b :: r) = none) := by show pDo (a :: b :: r) = _; rw [z_bD hn, pDo0]; exact if_neg (by rw [ha]; exact fun h => Bool.noConfusion h.1)
 have q3 : (3 : Int) < r.length + 2 := by omega
 have q2 : ¬ (r.length : Int) + 2 < 2 := by omega
 have q5 : ¬ (5 : Int) < r.length + 2 := by omega
 have za := hz a (by simp)
 have zb := hz b (by simp)
 obtain ⟨_, _, e0, hB, k0⟩ := hi.at 0 (by simp)
 cases e0
 have c0 : w.cell? ⟨g, off, none⟩ = some (.string a) := k0
 obtain ⟨_, _, e1, _, k1⟩ := hi.at 1 (by simp)
 cases e1
 have c1 : w.cell? ⟨g, off + 1, none⟩ = some (.string b) := k1
 have hb0 : g < w.heap.size := Nat.lt_of_lt_of_le hB.2 hBB
 have HZ : Hid (∀ s ∈ r, s.size ≤ 9223372036854775807) := fun s hs => by have := hz s (by simp [hs]); omega
 have HD : Hid (StrsAt 0 B w (some ⟨g, off + 2, none⟩) r) := hi.drop 2
 have cu : w.cell? ⟨g, off + r.length, none⟩ = some (.string u) := by
  obtain ⟨_, _, e1, _, hc1⟩ := hi.at r.length (by simp; omega)
  cases e1
  rw [hc1]; rw [hu0]
 clear hi hz k0 k1
 go_enter Tryz.func198, Tryz.ntmps198
 go_wp2_with (first | (go_at_call_of 140 a; refine (z_a a _ (by omega)).mono ?_; rintro e wx ⟨rfl, rfl⟩; rw [ha]))
 refine bodyPost_ret (v := .tuple #[.agg #[.int .i64 _, .string ⟨#[]⟩, .string ⟨#[]⟩, .slice none 0 0, .string ⟨#[]⟩], .bool false]) (by simp [results, Tryz.results198, go_sem]; rfl) rfl ?_
 exact z_d2 (args := []) (z_ab _ _ _) (Nat.le_refl _) (StrsAt.nil _ _ _ _) HN.out (Nat.zero_le _)
theorem z_nO (g off c : Nat) (a b : ByteArray) (r : List ByteArray) (B : Nat) (w : World) (hBB : B ≤ w.heap.size) (hl : r.length ≤ 4398046511000) (hc : r.length + 2 ≤ c) (hz : ∀ s ∈ a :: b :: r, s.size ≤ 4398046511104) (hi : StrsAt 0 B w (some ⟨g, off, none⟩) (a :: b :: r)) (u : ByteArray) (hn : z_aJ (a :: b :: r) = false) (h3 : 2 ≤ r.length) (hu0 : (a :: b :: r)[r.length]'(by simp; omega) = u) (hu : (u.toList == [117, 110, 100, 111]) = false) (hr : r.length ≤ 3) (ha : z_ac a = true) (hb : z_ac b = false) :
  Calls Tryz.prog 198 #[.agg #[.int .i64 (3 : Nat), .string ⟨#[]⟩, .string ⟨#[]⟩, .slice none 0 0, .string ⟨#[]⟩], .slice (some ⟨g, off, none⟩) (r.length + 2) c] w (DoE B w (a :: b :: r)) := by
 have HN : Hid (z_af ((3 : Nat) : Int) (a :: b :: r) = none) := by show pDo (a :: b :: r) = _; rw [z_bD hn, pDo0]; exact if_neg (by rw [hb]; exact fun h => Bool.noConfusion h.2.1)
 have q3 : (3 : Int) < r.length + 2 := by omega
 have q2 : ¬ (r.length : Int) + 2 < 2 := by omega
 have q5 : ¬ (5 : Int) < r.length + 2 := by omega
 have za := hz a (by simp)
 have zb := hz b (by simp)
 obtain ⟨_, _, e0, hB, k0⟩ := hi.at 0 (by simp)
 cases e0
 have c0 : w.cell? ⟨g, off, none⟩ = some (.string a) := k0
 obtain ⟨_, _, e1, _, k1⟩ := hi.at 1 (by simp)
 cases e1
 have c1 : w.cell? ⟨g, off + 1, none⟩ = some (.string b) := k1
 have hb0 : g < w.heap.size := Nat.lt_of_lt_of_le hB.2 hBB
 have HZ : Hid (∀ s ∈ r, s.size ≤ 9223372036854775807) := fun s hs => by have := hz s (by simp [hs]); omega
 have HD : Hid (StrsAt 0 B w (some ⟨g, off + 2, none⟩) r) := hi.drop 2
 have cu : w.cell? ⟨g, off + r.length, none⟩ = some (.string u) := by
  obtain ⟨_, _, e1, _, hc1⟩ := hi.at r.length (by simp; omega)
  cases e1
  rw [hc1]; rw [hu0]
 clear hi hz k0 k1
 go_enter Tryz.func198, Tryz.ntmps198
 go_wp2_with (first | (go_at_call_of 140 a; refine (z_a a _ (by omega)).mono ?_; rintro e wx ⟨rfl, rfl⟩; rw [ha]) | (go_at_call_of 140 b; refine (z_a b _ (by omega)).mono ?_; rintro e wx ⟨rfl, rfl⟩; rw [hb]))
 refine bodyPost_ret (v := .tuple #[.agg #[.int .i64 _, .string ⟨#[]⟩, .string ⟨#[]⟩, .slice none 0 0, .string ⟨#[]⟩], .bool false]) (by simp [results, Tryz.results198, go_sem]; rfl) rfl ?_
 exact z_d2 (args := []) (z_ab _ _ _) (Nat.le_refl _) (StrsAt.nil _ _ _ _) HN.out (Nat.zero_le _)
theorem z_n (g off c : Nat) (a b : ByteArray) (r : List ByteArray) (B : Nat) (w : World) (hBB : B ≤ w.heap.size) (hl : r.length ≤ 4398046511000) (hc : r.length + 2 ≤ c) (hz : ∀ s ∈ a :: b :: r, s.size ≤ 4398046511104) (hi : StrsAt 0 B w (some ⟨g, off, none⟩) (a :: b :: r)) (u : ByteArray) (hn : z_aJ (a :: b :: r) = false) (h3 : 2 ≤ r.length) (hu0 : (a :: b :: r)[r.length]'(by simp; omega) = u) (hu : (u.toList == [117, 110, 100, 111]) = false) (hr : r.length ≤ 3) (hc2 : ¬ c = 2) (ha : z_ac a = true) (hb : z_ac b = true) (ho : allB z_an r = false) :
  Calls Tryz.prog 198 #[.agg #[.int .i64 (3 : Nat), .string ⟨#[]⟩, .string ⟨#[]⟩, .slice none 0 0, .string ⟨#[]⟩], .slice (some ⟨g, off, none⟩) (r.length + 2) c] w (DoE B w (a :: b :: r)) := by
 have HN : Hid (z_af ((3 : Nat) : Int) (a :: b :: r) = none) := by show pDo (a :: b :: r) = _; rw [z_bD hn, pDo0]; exact if_neg (by rw [ho]; exact fun h => Bool.noConfusion h.2.2.2)
 have q3 : (3 : Int) < r.length + 2 := by omega
 have q2 : ¬ (r.length : Int) + 2 < 2 := by omega
 have q5 : ¬ (5 : Int) < r.length + 2 := by omega
 have za := hz a (by simp)
 have zb := hz b (by simp)
 obtain ⟨_, _, e0, hB, k0⟩ := hi.at 0 (by simp)
 cases e0
 have c0 : w.cell? ⟨g, off, none⟩ = some (.string a) := k0
 obtain ⟨_, _, e1, _, k1⟩ := hi.at 1 (by simp)
 cases e1
 have c1 : w.cell? ⟨g, off + 1, none⟩ = some (.string b) := k1
 have hb0 : g < w.heap.size := Nat.lt_of_lt_of_le hB.2 hBB
 have HZ : Hid (∀ s ∈ r, s.size ≤ 9223372036854775807) := fun s hs => by have := hz s (by simp [hs]); omega
 have HD : Hid (StrsAt 0 B w (some ⟨g, off + 2, none⟩) r) := hi.drop 2
 have cu : w.cell? ⟨g, off + r.length, none⟩ = some (.string u) := by
  obtain ⟨_, _, e1, _, hc1⟩ := hi.at r.length (by simp; omega)
  cases e1
  rw [hc1]; rw [hu0]
 clear hi hz k0 k1
 go_enter Tryz.func198, Tryz.ntmps198
 go_wp2_with (first | (go_at_call_of 140 a; refine (z_a a _ (by omega)).mono ?_; rintro e wx ⟨rfl, rfl⟩; rw [ha]) | (go_at_call_of 140 b; refine (z_a b _ (by omega)).mono ?_; rintro e wx ⟨rfl, rfl⟩; rw [hb]) | (go_at_call 197; refine (z_bv (some ⟨g, off + 2, none⟩) (c - 2) r.length r B _ rfl (by omega) HZ.out (HD.out.below ((z_ab _ _ _).mono hBB))).mono ?_; rintro e wx ⟨rfl, rfl⟩; rw [ho]))
 refine bodyPost_ret (v := .tuple #[.agg #[.int .i64 _, .string ⟨#[]⟩, .string ⟨#[]⟩, .slice none 0 0, .string ⟨#[]⟩], .bool false]) (by simp [results, Tryz.results198, go_sem]; rfl) rfl ?_
 exact z_d2 (args := []) (z_ab _ _ _) (Nat.le_refl _) (StrsAt.nil _ _ _ _) HN.out (Nat.zero_le _)
theorem z_np (g off c : Nat) (a b : ByteArray) (r : List ByteArray) (B : Nat) (w : World) (hBB : B ≤ w.heap.size) (hl : r.length ≤ 4398046511000) (hc : r.length + 2 ≤ c) (hz : ∀ s ∈ a :: b :: r, s.size ≤ 4398046511104) (hi : StrsAt 0 B w (some ⟨g, off, none⟩) (a :: b :: r)) (u : ByteArray) (hn : z_aJ (a :: b :: r) = false) (h3 : 2 ≤ r.length) (hu0 : (a :: b :: r)[r.length]'(by simp; omega) = u) (hu : (u.toList == [117, 110, 100, 111]) = false) (hr : r.length ≤ 3) (hc2 : ¬ c = 2) (ha : z_ac a = true) (hb : z_ac b = true) (ho : allB z_an r = true) :
  Calls Tryz.prog 198 #[.agg #[.int .i64 (3 : Nat), .string ⟨#[]⟩, .string ⟨#[]⟩, .slice none 0 0, .string ⟨#[]⟩], .slice (some ⟨g, off, none⟩) (r.length + 2) c] w (DoE B w (a :: b :: r)) := by
 have HN : Hid (z_af ((3 : Nat) : Int) (a :: b :: r) = some ⟨a, b, r, eS⟩) := by show pDo (a :: b :: r) = _; rw [z_bD hn, pDo0]; exact if_pos ⟨ha, hb, hr, ho⟩
 have q3 : (3 : Int) < r.length + 2 := by omega
 have q2 : ¬ (r.length : Int) + 2 < 2 := by omega
 have q5 : ¬ (5 : Int) < r.length + 2 := by omega
 have za := hz a (by simp)
 have zb := hz b (by simp)
 obtain ⟨_, _, e0, hB, k0⟩ := hi.at 0 (by simp)
 cases e0
 have c0 : w.cell? ⟨g, off, none⟩ = some (.string a) := k0
 obtain ⟨_, _, e1, _, k1⟩ := hi.at 1 (by simp)
 cases e1
 have c1 : w.cell? ⟨g, off + 1, none⟩ = some (.string b) := k1
 have hb0 : g < w.heap.size := Nat.lt_of_lt_of_le hB.2 hBB
 have HZ : Hid (∀ s ∈ r, s.size ≤ 9223372036854775807) := fun s hs => by have := hz s (by simp [hs]); omega
 have HD : Hid (StrsAt 0 B w (some ⟨g, off + 2, none⟩) r) := hi.drop 2
 have cu : w.cell? ⟨g, off + r.length, none⟩ = some (.string u) := by
  obtain ⟨_, _, e1, _, hc1⟩ := hi.at r.length (by simp; omega)
  cases e1
  rw [hc1]; rw [hu0]
 clear hi hz k0 k1
 go_enter Tryz.func198, Tryz.ntmps198
 go_wp2_with (first | (go_at_call_of 140 a; refine (z_a a _ (by omega)).mono ?_; rintro e wx ⟨rfl, rfl⟩; rw [ha]) | (go_at_call_of 140 b; refine (z_a b _ (by omega)).mono ?_; rintro e wx ⟨rfl, rfl⟩; rw [hb]) | (go_at_call 197; refine (z_bv (some ⟨g, off + 2, none⟩) (c - 2) r.length r B _ rfl (by omega) HZ.out (HD.out.below ((z_ab _ _ _).mono hBB))).mono ?_; rintro e wx ⟨rfl, rfl⟩; rw [ho]))
 refine bodyPost_ret (v := .tuple #[.agg #[.int .i64 _, .string a, .string b, .slice (some ⟨g, off + 2, none⟩) r.length (c - 2), .string ⟨#[]⟩], .bool true]) (by simp [results, Tryz.results198, go_sem]; rfl) rfl ?_
 exact z_ka (args := r) (z_ab _ _ _) (by omega) (HD.out.below ((z_ab _ _ _).mono hBB)) HN.out (by simp only [List.length_cons]; omega)
theorem z_nd (g off c : Nat) (a b : ByteArray) (r : List ByteArray) (B : Nat) (w : World) (hBB : B ≤ w.heap.size) (hl : r.length ≤ 4398046511000) (hc : r.length + 2 ≤ c) (hz : ∀ s ∈ a :: b :: r, s.size ≤ 4398046511104) (hi : StrsAt 0 B w (some ⟨g, off, none⟩) (a :: b :: r)) (hn : z_aJ (a :: b :: r) = false) (h3f : r.length < 2) (ha : z_ac a = false) :
  Calls Tryz.prog 198 #[.agg #[.int .i64 (3 : Nat), .string ⟨#[]⟩, .string ⟨#[]⟩, .slice none 0 0, .string ⟨#[]⟩], .slice (some ⟨g, off, none⟩) (r.length + 2) c] w (DoE B w (a :: b :: r)) := by
 have HN : Hid (z_af ((3 : Nat) : Int) (a :: b :: r) = none) := by show pDo (a :: b :: r) = _; rw [z_bD hn, pDo0]; exact if_neg (by rw [ha]; exact fun h => Bool.noConfusion h.1)
 have q3 : ¬ (3 : Int) < r.length + 2 := by omega
 have q2 : ¬ (r.length : Int) + 2 < 2 := by omega
 have q5 : ¬ (5 : Int) < r.length + 2 := by omega
 have za := hz a (by simp)
 have zb := hz b (by simp)
 obtain ⟨_, _, e0, hB, k0⟩ := hi.at 0 (by simp)
 cases e0
 have c0 : w.cell? ⟨g, off, none⟩ = some (.string a) := k0
 obtain ⟨_, _, e1, _, k1⟩ := hi.at 1 (by simp)
 cases e1
 have c1 : w.cell? ⟨g, off + 1, none⟩ = some (.string b) := k1
 have hb0 : g < w.heap.size := Nat.lt_of_lt_of_le hB.2 hBB
 have HZ : Hid (∀ s ∈ r, s.size ≤ 9223372036854775807) := fun s hs => by have := hz s (by simp [hs]); omega
 have HD : Hid (StrsAt 0 B w (some ⟨g, off + 2, none⟩) r) := hi.drop 2
 clear hi hz k0 k1
 go_enter Tryz.func198, Tryz.ntmps198
 go_wp2_with (first | (go_at_call_of 140 a; refine (z_a a _ (by omega)).mono ?_; rintro e wx ⟨rfl, rfl⟩; rw [ha]))
 refine bodyPost_ret (v := .tuple #[.agg #[.int .i64 _, .string ⟨#[]⟩, .string ⟨#[]⟩, .slice none 0 0, .string ⟨#[]⟩], .bool false]) (by simp [results, Tryz.results198, go_sem]; rfl) rfl ?_
 exact z_d2 (args := []) (z_ab _ _ _) (Nat.le_refl _) (StrsAt.nil _ _ _ _) HN.out (Nat.zero_le _)
theorem z_nu (g off c : Nat) (a b : ByteArray) (r : List ByteArray) (B : Nat) (w : World) (hBB : B ≤ w.heap.size) (hl : r.length ≤ 4398046511000) (hc : r.length + 2 ≤ c) (hz : ∀ s ∈ a :: b :: r, s.size ≤ 4398046511104) (hi : StrsAt 0 B w (some ⟨g, off, none⟩) (a :: b :: r)) (hn : z_aJ (a :: b :: r) = false) (h3f : r.length < 2) (ha : z_ac a = true) (hb : z_ac b = false) :
  Calls Tryz.prog 198 #[.agg #[.int .i64 (3 : Nat), .string ⟨#[]⟩, .string ⟨#[]⟩, .slice none 0 0, .string ⟨#[]⟩], .slice (some ⟨g, off, none⟩) (r.length + 2) c] w (DoE B w (a :: b :: r)) := by
 have HN : Hid (z_af ((3 : Nat) : Int) (a :: b :: r) = none) := by show pDo (a :: b :: r) = _; rw [z_bD hn, pDo0]; exact if_neg (by rw [hb]; exact fun h => Bool.noConfusion h.2.1)
 have q3 : ¬ (3 : Int) < r.length + 2 := by omega
 have q2 : ¬ (r.length : Int) + 2 < 2 := by omega
 have q5 : ¬ (5 : Int) < r.length + 2 := by omega
 have za := hz a (by simp)
 have zb := hz b (by simp)
 obtain ⟨_, _, e0, hB, k0⟩ := hi.at 0 (by simp)
 cases e0
 have c0 : w.cell? ⟨g, off, none⟩ = some (.string a) := k0
 obtain ⟨_, _, e1, _, k1⟩ := hi.at 1 (by simp)
 cases e1
 have c1 : w.cell? ⟨g, off + 1, none⟩ = some (.string b) := k1
 have hb0 : g < w.heap.size := Nat.lt_of_lt_of_le hB.2 hBB
 have HZ : Hid (∀ s ∈ r, s.size ≤ 9223372036854775807) := fun s hs => by have := hz s (by simp [hs]); omega
 have HD : Hid (StrsAt 0 B w (some ⟨g, off + 2, none⟩) r) := hi.drop 2
 clear hi hz k0 k1
 go_enter Tryz.func198, Tryz.ntmps198
 go_wp2_with (first | (go_at_call_of 140 a; refine (z_a a _ (by omega)).mono ?_; rintro e wx ⟨rfl, rfl⟩; rw [ha]) | (go_at_call_of 140 b; refine (z_a b _ (by omega)).mono ?_; rintro e wx ⟨rfl, rfl⟩; rw [hb]))
 refine bodyPost_ret (v := .tuple #[.agg #[.int .i64 _, .string ⟨#[]⟩, .string ⟨#[]⟩, .slice none 0 0, .string ⟨#[]⟩], .bool false]) (by simp [results, Tryz.results198, go_sem]; rfl) rfl ?_
 exact z_d2 (args := []) (z_ab _ _ _) (Nat.le_refl _) (StrsAt.nil _ _ _ _) HN.out (Nat.zero_le _)
theorem z_nc (g off c : Nat) (a b : ByteArray) (r : List ByteArray) (B : Nat) (w : World) (hBB : B ≤ w.heap.size) (hl : r.length ≤ 4398046511000) (hc : r.length + 2 ≤ c) (hz : ∀ s ∈ a :: b :: r, s.size ≤ 4398046511104) (hi : StrsAt 0 B w (some ⟨g, off, none⟩) (a :: b :: r)) (hn : z_aJ (a :: b :: r) = false) (h3f : r.length < 2) (hc2 : ¬ c = 2) (ha : z_ac a = true) (hb : z_ac b = true) (ho : allB z_an r = false) :
  Calls Tryz.prog 198 #[.agg #[.int .i64 (3 : Nat), .string ⟨#[]⟩, .string ⟨#[]⟩, .slice none 0 0, .string ⟨#[]⟩], .slice (some ⟨g, off, none⟩) (r.length + 2) c] w (DoE B w (a :: b :: r)) := by
 have HN : Hid (z_af ((3 : Nat) : Int) (a :: b :: r) = none) := by show pDo (a :: b :: r) = _; rw [z_bD hn, pDo0]; exact if_neg (by rw [ho]; exact fun h => Bool.noConfusion h.2.2.2)
 have q3 : ¬ (3 : Int) < r.length + 2 := by omega
 have q2 : ¬ (r.length : Int) + 2 < 2 := by omega
 have q5 : ¬ (5 : Int) < r.length + 2 := by omega
 have za := hz a (by simp)
 have zb := hz b (by simp)
 obtain ⟨_, _, e0, hB, k0⟩ := hi.at 0 (by simp)
 cases e0
 have c0 : w.cell? ⟨g, off, none⟩ = some (.string a) := k0
 obtain ⟨_, _, e1, _, k1⟩ := hi.at 1 (by simp)
 cases e1
 have c1 : w.cell? ⟨g, off + 1, none⟩ = some (.string b) := k1
 have hb0 : g < w.heap.size := Nat.lt_of_lt_of_le hB.2 hBB
 have HZ : Hid (∀ s ∈ r, s.size ≤ 9223372036854775807) := fun s hs => by have := hz s (by simp [hs]); omega
 have HD : Hid (StrsAt 0 B w (some ⟨g, off + 2, none⟩) r) := hi.drop 2
 clear hi hz k0 k1
 go_enter Tryz.func198, Tryz.ntmps198
 go_wp2_with (first | (go_at_call_of 140 a; refine (z_a a _ (by omega)).mono ?_; rintro e wx ⟨rfl, rfl⟩; rw [ha]) | (go_at_call_of 140 b; refine (z_a b _ (by omega)).mono ?_; rintro e wx ⟨rfl, rfl⟩; rw [hb]) | (go_at_call 197; refine (z_bv (some ⟨g, off + 2, none⟩) (c - 2) r.length r B _ rfl (by omega) HZ.out (HD.out.below ((z_ab _ _ _).mono hBB))).mono ?_; rintro e wx ⟨rfl, rfl⟩; rw [ho]))
 refine bodyPost_ret (v := .tuple #[.agg #[.int .i64 _, .string ⟨#[]⟩, .string ⟨#[]⟩, .slice none 0 0, .string ⟨#[]⟩], .bool false]) (by simp [results, Tryz.results198, go_sem]; rfl) rfl ?_
 exact z_d2 (args := []) (z_ab _ _ _) (Nat.le_refl _) (StrsAt.nil _ _ _ _) HN.out (Nat.zero_le _)
theorem z_nA (g off c : Nat) (a b : ByteArray) (r : List ByteArray) (B : Nat) (w : World) (hBB : B ≤ w.heap.size) (hl : r.length ≤ 4398046511000) (hc : r.length + 2 ≤ c) (hz : ∀ s ∈ a :: b :: r, s.size ≤ 4398046511104) (hi : StrsAt 0 B w (some ⟨g, off, none⟩) (a :: b :: r)) (hn : z_aJ (a :: b :: r) = false) (h3f : r.length < 2) (hc2 : ¬ c = 2) (ha : z_ac a = true) (hb : z_ac b = true) (ho : allB z_an r = true) :
  Calls Tryz.prog 198 #[.agg #[.int .i64 (3 : Nat), .string ⟨#[]⟩, .string ⟨#[]⟩, .slice none 0 0, .string ⟨#[]⟩], .slice (some ⟨g, off, none⟩) (r.length + 2) c] w (DoE B w (a :: b :: r)) := by
 have HN : Hid (z_af ((3 : Nat) : Int) (a :: b :: r) = some ⟨a, b, r, eS⟩) := by show pDo (a :: b :: r) = _; rw [z_bD hn, pDo0]; exact if_pos ⟨ha, hb, by omega, ho⟩
 have q3 : ¬ (3 : Int) < r.length + 2 := by omega
 have q2 : ¬ (r.length : Int) + 2 < 2 := by omega
 have q5 : ¬ (5 : Int) < r.length + 2 := by omega
 have za := hz a (by simp)
 have zb := hz b (by simp)
 obtain ⟨_, _, e0, hB, k0⟩ := hi.at 0 (by simp)
 cases e0
 have c0 : w.cell? ⟨g, off, none⟩ = some (.string a) := k0
 obtain ⟨_, _, e1, _, k1⟩ := hi.at 1 (by simp)
 cases e1
 have c1 : w.cell? ⟨g, off + 1, none⟩ = some (.string b) := k1
 have hb0 : g < w.heap.size := Nat.lt_of_lt_of_le hB.2 hBB
 have HZ : Hid (∀ s ∈ r, s.size ≤ 9223372036854775807) := fun s hs => by have := hz s (by simp [hs]); omega
 have HD : Hid (StrsAt 0 B w (some ⟨g, off + 2, none⟩) r) := hi.drop 2
 clear hi hz k0 k1
 go_enter Tryz.func198, Tryz.ntmps198
 go_wp2_with (first | (go_at_call_of 140 a; refine (z_a a _ (by omega)).mono ?_; rintro e wx ⟨rfl, rfl⟩; rw [ha]) | (go_at_call_of 140 b; refine (z_a b _ (by omega)).mono ?_; rintro e wx ⟨rfl, rfl⟩; rw [hb]) | (go_at_call 197; refine (z_bv (some ⟨g, off + 2, none⟩) (c - 2) r.length r B _ rfl (by omega) HZ.out (HD.out.below ((z_ab _ _ _).mono hBB))).mono ?_; rintro e wx ⟨rfl, rfl⟩; rw [ho]))
 refine bodyPost_ret (v := .tuple #[.agg #[.int .i64 _, .string a, .string b, .slice (some ⟨g, off + 2, none⟩) r.length (c - 2), .string ⟨#[]⟩], .bool true]) (by simp [results, Tryz.results198, go_sem]; rfl) rfl ?_
 exact z_ka (args := r) (z_ab _ _ _) (by omega) (HD.out.below ((z_ab _ _ _).mono hBB)) HN.out (by simp only [List.length_cons]; omega)
theorem z_mF (g off : Nat) (a b : ByteArray) (B : Nat) (w : World) (hBB : B ≤ w.heap.size) (hz : ∀ s ∈ [a, b], s.size ≤ 4398046511104) (hi : StrsAt 0 B w (some ⟨g, off, none⟩) [a, b]) (ha : z_ac a = true) (hb : z_ac b = true) :
  Calls Tryz.prog 198 #[.agg #[.int .i64 (3 : Nat), .string ⟨#[]⟩, .string ⟨#[]⟩, .slice none 0 0, .string ⟨#[]⟩], .slice (some ⟨g, off, none⟩) 2 2] w (DoE B w [a, b]) := by
 have HN : Hid (z_af ((3 : Nat) : Int) [a, b] = some ⟨a, b, [], eS⟩) := by show pDo [a, b] = _; rw [z_bD rfl, pDo0]; exact if_pos ⟨ha, hb, by decide, rfl⟩
 have za := hz a (by simp)
 have zb := hz b (by simp)
 obtain ⟨_, _, e0, hB, k0⟩ := hi.at 0 (by simp)
 cases e0
 have c0 : w.cell? ⟨g, off, none⟩ = some (.string a) := k0
 obtain ⟨_, _, e1, _, k1⟩ := hi.at 1 (by simp)
 cases e1
 have c1 : w.cell? ⟨g, off + 1, none⟩ = some (.string b) := k1
 have hb0 : g < w.heap.size := Nat.lt_of_lt_of_le hB.2 hBB
 clear hi hz k0 k1
 go_enter Tryz.func198, Tryz.ntmps198
 go_wp2_with (first | (go_at_call_of 140 a; refine (z_a a _ (by omega)).mono ?_; rintro e wx ⟨rfl, rfl⟩; rw [ha]) | (go_at_call_of 140 b; refine (z_a b _ (by omega)).mono ?_; rintro e wx ⟨rfl, rfl⟩; rw [hb]) | (go_at_call 197; refine (z_bv (some ⟨g, off, none⟩) 0 0 [] B _ rfl (by simp) (by simp) (StrsAt.nil _ _ _ _)).mono ?_; rintro e wx ⟨rfl, rfl⟩; rw [show allB z_an [] = true from rfl]))
 refine bodyPost_ret (v := .tuple #[.agg #[.int .i64 _, .string a, .string b, .slice (some ⟨g, off, none⟩) 0 0, .string ⟨#[]⟩], .bool true]) (by simp [results, Tryz.results198, go_sem]; rfl) rfl ?_
 exact z_ka (args := []) (z_ab _ _ _) (Nat.zero_le _) (StrsAt.nil _ _ _ _) HN.out (Nat.zero_le _)
end
section
open Go.RowKit
theorem z_kT {r0 : List ByteArray} (h : 2 ≤ r0.length) : ∃ r u x, r0 = r ++ [u, x] := by
  refine ⟨r0.take (r0.length - 2), r0[r0.length - 2], r0[r0.length - 1], ?_⟩
  have h1 : r0.drop (r0.length - 2) = [r0[r0.length - 2], r0[r0.length - 1]] := by
    apply List.ext_getElem (by simp; omega)
    intro n hn hm
    have hn2 : n < 2 := by simpa using hm
    rw [List.getElem_drop]
    match n, hn2 with
    | 0, _ => rfl
    | 1, _ => simp only [List.getElem_cons_succ, List.getElem_cons_zero]; congr 1; omega
  calc r0 = r0.take (r0.length - 2) ++ r0.drop (r0.length - 2) := (List.take_append_drop _ _).symm
    _ = _ := by rw [h1]
theorem z_lW {a b u x : ByteArray} {r : List ByteArray} : z_aJ (a :: b :: (r ++ [u, x])) = (u.toList == [117, 110, 100, 111]) := by
 have e1 : (a :: b :: (r ++ [u, x])).length = r.length + 4 := by simp
 have e2 : (a :: b :: (r ++ [u, x])).getD (r.length + 2) eS = u := by simp [List.getD]
 unfold z_aJ
 rw [e1, show r.length + 4 - 2 = r.length + 2 by omega, e2, decide_eq_true (by omega : 3 < r.length + 4), Bool.true_and]
theorem z_mK (ao : Option Addr) (c : Nat) (ws : List ByteArray) (B : Nat) (w : World) (hBB : B ≤ w.heap.size) (hl : ws.length ≤ 4398046511000) (hc : ws.length ≤ c) (hz : ∀ s ∈ ws, s.size ≤ 4398046511104) (hi : StrsAt 0 B w ao ws) :
  Calls Tryz.prog 198 #[.agg #[.int .i64 (3 : Nat), .string ⟨#[]⟩, .string ⟨#[]⟩, .slice none 0 0, .string ⟨#[]⟩], .slice ao ws.length c] w (DoE B w ws) := by
 by_cases h2 : ws.length < 2
 ·exact z_kq ao c ws B w h2
 match ws, h2, hl, hc, hz, hi with
 | [], h2, _, _, _, _ => exact absurd (by simp) h2
 | [_], h2, _, _, _, _ => exact absurd (by simp) h2
 | a :: b :: r0, _, hl, hc, hz, hi =>
  obtain ⟨g, off, rfl, _⟩ := hi.at 0 (by simp)
  by_cases h4 : 2 ≤ r0.length
  ·obtain ⟨r, u, x, rfl⟩ := z_kT h4
   have el : (a :: b :: (r ++ [u, x])).length = r.length + 4 := by simp
   rw [el] at hl hc ⊢
   cases hu : (u.toList == [117, 110, 100, 111]) with
   | true =>
    cases hx : z_ac x with
    | false => exact z_nC g off c a b u x r B w hBB (by omega) hc hz hi hu hx
    | true =>
     by_cases hr : 3 < r.length
     ·exact z_ns g off c a b u x r B w hBB (by omega) hc hz hi hu hx hr
     have hr : r.length ≤ 3 := by omega
     cases ha : z_ac a with
     | false => exact z_nn g off c a b u x r B w hBB (by omega) hc hz hi hu hx hr ha
     | true =>
      cases hb : z_ac b with
      | false => exact z_nm g off c a b u x r B w hBB (by omega) hc hz hi hu hx hr ha hb
      | true =>
       cases ho : allB z_an r with
       | false => exact z_nl g off c a b u x r B w hBB (by omega) hc hz hi hu hx hr ha hb ho
       | true => exact z_na g off c a b u x r B w hBB (by omega) hc hz hi hu hx hr ha hb ho
   | false =>
    have hn : z_aJ (a :: b :: (r ++ [u, x])) = false := by rw [z_lW]; exact hu
    have e0 : (r ++ [u, x]).length = r.length + 2 := by simp
    have hu0 : (a :: b :: (r ++ [u, x]))[(r ++ [u, x]).length]'(by simp) = u := by
     have : (a :: b :: (r ++ [u, x]))[(r ++ [u, x]).length]? = some u := by rw [e0]; simp
     exact Option.some.inj ((List.getElem?_eq_getElem _).symm.trans this)
    have hl' : (r ++ [u, x]).length ≤ 4398046511000 := by omega
    have hc' : (r ++ [u, x]).length + 2 ≤ c := by omega
    rw [show r.length + 4 = (r ++ [u, x]).length + 2 by omega]
    by_cases hr : 3 < (r ++ [u, x]).length
    ·exact z_nE g off c a b (r ++ [u, x]) B w hBB hl' hc' hz hi u hn h4 hu0 hu hr
    have hr : (r ++ [u, x]).length ≤ 3 := by omega
    cases ha : z_ac a with
    | false => exact z_m8 g off c a b (r ++ [u, x]) B w hBB hl' hc' hz hi u hn h4 hu0 hu hr ha
    | true =>
     cases hb : z_ac b with
     | false => exact z_nO g off c a b (r ++ [u, x]) B w hBB hl' hc' hz hi u hn h4 hu0 hu hr ha hb
     | true =>
      cases ho : allB z_an (r ++ [u, x]) with
      | false => exact z_n g off c a b (r ++ [u, x]) B w hBB hl' hc' hz hi u hn h4 hu0 hu hr (by omega) ha hb ho
      | true => exact z_np g off c a b (r ++ [u, x]) B w hBB hl' hc' hz hi u hn h4 hu0 hu hr (by omega) ha hb ho
  ·have hr2 : r0.length < 2 := by omega
   have hn : z_aJ (a :: b :: r0) = false := by
    unfold z_aJ
    have : (a :: b :: r0).length = r0.length + 2 := by simp
    rw [decide_eq_false (by rw [this]; omega), Bool.false_and]
   have el : (a :: b :: r0).length = r0.length + 2 := by simp
   rw [el] at hl hc ⊢
   cases ha : z_ac a with
   | false => exact z_nd g off c a b r0 B w hBB (by omega) hc hz hi hn hr2 ha
   | true =>
    cases hb : z_ac b with
    | false => exact z_nu g off c a b r0 B w hBB (by omega) hc hz hi hn hr2 ha hb
    | true =>
     by_cases hc2 : c = 2
     ·have e0 : r0 = [] := List.length_eq_zero_iff.1 (by omega)
      subst e0
      subst hc2
      exact z_mF g off a b B w hBB hz hi ha hb
     ·cases ho : allB z_an r0 with
      | false => exact z_nc g off c a b r0 B w hBB (by omega) hc hz hi hn hr2 hc2 ha hb ho
      | true => exact z_nA g off c a b r0 B w hBB (by omega) hc hz hi hn hr2 hc2 ha hb ho
theorem z_lN (ao : Option Addr) (c : Nat) (ws : List ByteArray) (w : World) (hl : ws.length ≤ 4398046511000) (hc : ws.length ≤ c) (hz : ∀ s ∈ ws, s.size ≤ 4398046511104) (hi : StrsAt 0 w.heap.size w ao ws) :
  Calls Tryz.prog 171 #[.int .i64 (3 : Nat), .slice ao ws.length c] w (z_bg w (3 : Nat) ws) := by
 have HI : Hid (StrsAt 0 w.heap.size w ao ws) := hi
 have HZ : Hid (∀ s ∈ ws, s.size ≤ 4398046511104) := hz
 clear hi hz
 go_enter Tryz.func171, Tryz.ntmps171
 go_wp2_with fail
 refine (z_mK ao c ws w.heap.size _ (by simp; omega) hl hc HZ.out (HI.out.below (z_ab _ _ _))).mono ?_
 rintro e w2 ⟨hb, tt, nm, ud, args, bo, cap, ok, rfl, hcap, hle, hs, h1, h2⟩
 obtain ⟨HB, hz2, ⟨x0, x1, x2, x3, x4⟩, hf⟩ := (show Hid (Below w.heap.size w w2) ∧ w.heap.size < w2.heap.size ∧ (w2.cell? ⟨w.heap.size, 0, none⟩ = some (.int .i64 0) ∧ w2.cell? ⟨w.heap.size, 1, none⟩ = some (.string ⟨#[]⟩) ∧ w2.cell? ⟨w.heap.size, 2, none⟩ = some (.string ⟨#[]⟩) ∧ w2.cell? ⟨w.heap.size, 3, none⟩ = some (.slice none 0 0) ∧ w2.cell? ⟨w.heap.size, 4, none⟩ = some (.string ⟨#[]⟩)) ∧ (∀ j, w2.frozen? ⟨w.heap.size, j, none⟩ = false) from by
  have hc0 := fun j => hb.cell (p := ⟨w.heap.size, j, none⟩) (by simp; omega)
  have hf0 := fun j => hb.frozen (p := ⟨w.heap.size, j, none⟩) (by simp; omega)
  refine ⟨(z_ab _ _ _).trans (hb.mono (by simp; omega)), by have := hb.size; simp at this; omega, ⟨?_, ?_, ?_, ?_, ?_⟩, fun j => ?_⟩
  all_goals first | (rw [hc0]; simp [go_sem]; done) | (rw [hf0]; simp [go_sem]; done))
 have HS : Hid (StrsAt 0 w.heap.size w2 bo args) := hs
 have H1 : Hid (ok = true → z_af ((3 : Nat) : Int) ws = some ⟨tt, nm, args, ud⟩) := h1
 have H2 : Hid (ok = false → z_af ((3 : Nat) : Int) ws = none) := h2
 clear hb hs h1 h2
 go_wp2
 refine bodyPost_ret (v := .tuple #[.agg #[.int .i64 _, .string tt, .string nm, .slice bo args.length cap, .string ud], .bool ok]) (by simp [results, Tryz.results171, go_sem, x0, x1, x2, x3, x4]; rfl) rfl ?_
 refine ⟨z_az HB.out _ _ _ _ _, tt, nm, ud, args, bo, cap, ok, rfl, hcap, hle, ?_, H1.out, H2.out⟩
 have h5 := ((((HS.out.setCell (p := ⟨w.heap.size, 0, none⟩) (.inr (Nat.le_refl _)) (.int .i64 (3 : Nat))).setCell (p := ⟨w.heap.size, 1, none⟩) (.inr (Nat.le_refl _)) (.string tt)).setCell (p := ⟨w.heap.size, 2, none⟩) (.inr (Nat.le_refl _)) (.string nm)).setCell (p := ⟨w.heap.size, 3, none⟩) (.inr (Nat.le_refl _)) (.slice bo args.length cap)).setCell (p := ⟨w.heap.size, 4, none⟩) (.inr (Nat.le_refl _)) (.string ud)
 exact h5.mono (Nat.le_refl _) (by simp [World.setCell]; omega)
end
section
open Go.RowKit
theorem z_jg (t : ByteArray) : hasB opsS t = ((t.toList == [105, 115]) || ((t.toList == [97, 100, 100]) || ((t.toList == [115, 117, 98]) || (t.toList == [109, 117, 108])))) := by
 have e : ∀ l : List UInt8, decide ((⟨l.toArray⟩ : ByteArray) = t) = (t.toList == l) := fun l => by
  rw [z_lc]
  by_cases h : t = ⟨l.toArray⟩
  ·rw [decide_eq_true h, decide_eq_true h.symm]
  ·rw [decide_eq_false h, decide_eq_false (fun x => h x.symm)]
 have e1 := e [105, 115]
 have e2 := e [97, 100, 100]
 have e3 := e [115, 117, 98]
 have e4 := e [109, 117, 108]
 unfold hasB opsS
 simp only [List.any_cons, List.any_nil, Bool.or_false]
 rw [← e1, ← e2, ← e3, ← e4]
theorem z_nN {t : ByteArray} (h : hasB opsS t = false) : letN t = 0 := by
 rw [z_jg, Bool.or_eq_false_iff] at h
 unfold letN
 rw [h.1, h.2]; rfl
theorem z_jh {t : ByteArray} (h : (t.toList == [105, 115]) = true) : letN t = 1 := by unfold letN; rw [h]; rfl
theorem z_ml {t : ByteArray} (h : hasB opsS t = true) (hi : (t.toList == [105, 115]) = false) : letN t = 2 := by
 rw [z_jg, hi, Bool.false_or] at h
 unfold letN
 rw [hi, h]; rfl
theorem z_kl {t : ByteArray} (h : (t.toList == [105, 115]) = true) : hasB opsS t = true := by rw [z_jg, h]; rfl
theorem z_fO (ao : Option Addr) (c : Nat) (ws : List ByteArray) (w : World) (h3 : ws.length < 3) :
  Calls Tryz.prog 171 #[.int .i64 (2 : Nat), .slice ao ws.length c] w (z_bg w (2 : Nat) ws) := by
 have HN : Hid (z_af ((2 : Nat) : Int) ws = none) := by
  show pLet ws = _
  match ws, h3 with
  | [], _ => rfl
  | [_], _ => rfl
  | [_, _], _ => rfl
  | _ :: _ :: _ :: _, h => simp at h; omega
 have b3 : decide ((ws.length : Int) < 3) = true := by simp; omega
 clear h3
 go_enter Tryz.func171, Tryz.ntmps171
 go_wp2_with fail
 go_region
 all_goals
  go_wp2_with fail
  refine bodyPost_ret (v := .tuple #[.agg #[.int .i64 _, .string ⟨#[]⟩, .string ⟨#[]⟩, .slice none 0 0, .string ⟨#[]⟩], .bool false]) (by simp [results, Tryz.results171, go_sem]; rfl) rfl ?_
  exact z_aH (args := []) (z_ab _ _ _).drew (Nat.le_refl _) (StrsAt.nil _ _ _ _) HN.out (Nat.zero_le _)
end
end Go.Proofs.YtlbjjbolbopfmaaGreatDoor
