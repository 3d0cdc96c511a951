import Derived.Test.YtlbjjbolbopfmaaGreatDoorJ25
namespace Go.Proofs.YtlbjjbolbopfmaaGreatDoor
set_option maxHeartbeats 4000000
set_option maxRecDepth 1000000
set_option linter.unusedVariables false
section
open Go.RowKit
theorem z_nt (g off c : Nat) (a b u x : ByteArray) (r : List ByteArray) (B : Nat) (w : World) (hBB : B ≤ w.heap.size) (hl : r.length ≤ 4398046511000) (hc : r.length + 4 ≤ c) (hz : ∀ s ∈ a :: b :: (r ++ [u, x]), s.size ≤ 4398046511104) (hi : StrsAt 0 B w (some ⟨g, off, none⟩) (a :: b :: (r ++ [u, x]))) (hu : (u.toList == [117, 110, 100, 111]) = true) (hx : z_ac x = false) :
  Calls Tryz.prog 198 #[.agg #[.int .i64 (3 : Nat), .string ⟨#[]⟩, .string ⟨#[]⟩, .slice none 0 0, .string ⟨#[]⟩], .slice (some ⟨g, off, none⟩) (r.length + 4) c] w (DoE B w (a :: b :: (r ++ [u, x]))) := by
 have HN : Hid (z_af ((3 : Nat) : Int) (a :: b :: (r ++ [u, x])) = none) := by show pDo (a :: b :: (r ++ [u, x])) = _; rw [z_bU a b u x r hu]; rw [if_neg (by rw [hx]; exact Bool.noConfusion)]
 have q3 : (3 : Int) < r.length + 4 := by omega
 have q2 : ¬ (r.length : Int) + 2 < 2 := by omega
 have za := hz a (by simp)
 have zb := hz b (by simp)
 obtain ⟨_, _, e0, hB, k0⟩ := hi.at 0 (by simp)
 cases e0
 have c0 : w.cell? ⟨g, off, none⟩ = some (.string a) := k0
 obtain ⟨_, _, e1, _, k1⟩ := hi.at 1 (by simp)
 cases e1
 have c1 : w.cell? ⟨g, off + 1, none⟩ = some (.string b) := k1
 have hb0 : g < w.heap.size := Nat.lt_of_lt_of_le hB.2 hBB
 have HZ : Hid (∀ s ∈ r, s.size ≤ 9223372036854775807) := fun s hs => by have := hz s (by simp [hs]); omega
 have zx := hz x (by simp)
 have cu : w.cell? ⟨g, off + (r.length + 2), none⟩ = some (.string u) := by
  obtain ⟨_, _, e1, _, hc1⟩ := hi.at (r.length + 2) (by simp)
  cases e1
  simpa using hc1
 have cx : w.cell? ⟨g, off + (r.length + 3), none⟩ = some (.string x) := by
  obtain ⟨_, _, e1, _, hc1⟩ := hi.at (r.length + 3) (by simp)
  cases e1
  simpa using hc1
 have HD : Hid (StrsAt 0 B w (some ⟨g, off + 2, none⟩) r) := by
  have h1 := (hi.drop 2).take r.length
  rwa [show ((a :: b :: (r ++ [u, x])).drop 2).take r.length = r by simp] at h1
 have hc2 : ¬ c = 2 := by omega
 clear hi hz k0 k1
 go_enter Tryz.func198, Tryz.ntmps198
 go_wp2_with (first | (go_at_call_of 140 x; refine (z_a x _ (by omega)).mono ?_; rintro e wx ⟨rfl, rfl⟩; rw [hx]))
 refine bodyPost_ret (v := .tuple #[.agg #[.int .i64 _, .string ⟨#[]⟩, .string ⟨#[]⟩, .slice none 0 0, .string x], .bool false]) (by simp [results, Tryz.results198, go_sem]; rfl) rfl ?_
 exact z_ee (args := []) (z_ab _ _ _) (Nat.le_refl _) (StrsAt.nil _ _ _ _) HN.out (Nat.zero_le _)
theorem z_nA (g off c : Nat) (a b u x : ByteArray) (r : List ByteArray) (B : Nat) (w : World) (hBB : B ≤ w.heap.size) (hl : r.length ≤ 4398046511000) (hc : r.length + 4 ≤ c) (hz : ∀ s ∈ a :: b :: (r ++ [u, x]), s.size ≤ 4398046511104) (hi : StrsAt 0 B w (some ⟨g, off, none⟩) (a :: b :: (r ++ [u, x]))) (hu : (u.toList == [117, 110, 100, 111]) = true) (hx : z_ac x = true) (hr : 3 < r.length) :
  Calls Tryz.prog 198 #[.agg #[.int .i64 (3 : Nat), .string ⟨#[]⟩, .string ⟨#[]⟩, .slice none 0 0, .string ⟨#[]⟩], .slice (some ⟨g, off, none⟩) (r.length + 4) c] w (DoE B w (a :: b :: (r ++ [u, x]))) := by
 have HN : Hid (z_af ((3 : Nat) : Int) (a :: b :: (r ++ [u, x])) = none) := by show pDo (a :: b :: (r ++ [u, x])) = _; rw [z_bU a b u x r hu]; rw [if_pos hx, pDo0]; exact if_neg (fun h => by have := h.2.2.1; omega)
 have q3 : (3 : Int) < r.length + 4 := by omega
 have q2 : ¬ (r.length : Int) + 2 < 2 := by omega
 have q5 : (5 : Int) < r.length + 2 := by omega
 have za := hz a (by simp)
 have zb := hz b (by simp)
 obtain ⟨_, _, e0, hB, k0⟩ := hi.at 0 (by simp)
 cases e0
 have c0 : w.cell? ⟨g, off, none⟩ = some (.string a) := k0
 obtain ⟨_, _, e1, _, k1⟩ := hi.at 1 (by simp)
 cases e1
 have c1 : w.cell? ⟨g, off + 1, none⟩ = some (.string b) := k1
 have hb0 : g < w.heap.size := Nat.lt_of_lt_of_le hB.2 hBB
 have HZ : Hid (∀ s ∈ r, s.size ≤ 9223372036854775807) := fun s hs => by have := hz s (by simp [hs]); omega
 have zx := hz x (by simp)
 have cu : w.cell? ⟨g, off + (r.length + 2), none⟩ = some (.string u) := by
  obtain ⟨_, _, e1, _, hc1⟩ := hi.at (r.length + 2) (by simp)
  cases e1
  simpa using hc1
 have cx : w.cell? ⟨g, off + (r.length + 3), none⟩ = some (.string x) := by
  obtain ⟨_, _, e1, _, hc1⟩ := hi.at (r.length + 3) (by simp)
  cases e1
  simpa using hc1
 have HD : Hid (StrsAt 0 B w (some ⟨g, off + 2, none⟩) r) := by
  have h1 := (hi.drop 2).take r.length
  rwa [show ((a :: b :: (r ++ [u, x])).drop 2).take r.length = r by simp] at h1
 have hc2 : ¬ c = 2 := by omega
 clear hi hz k0 k1
 go_enter Tryz.func198, Tryz.ntmps198
 go_wp2_with (first | (go_at_call_of 140 x; refine (z_a x _ (by omega)).mono ?_; rintro e wx ⟨rfl, rfl⟩; rw [hx]))
 refine bodyPost_ret (v := .tuple #[.agg #[.int .i64 _, .string ⟨#[]⟩, .string ⟨#[]⟩, .slice none 0 0, .string x], .bool false]) (by simp [results, Tryz.results198, go_sem]; rfl) rfl ?_
 exact z_ee (args := []) (z_ab _ _ _) (Nat.le_refl _) (StrsAt.nil _ _ _ _) HN.out (Nat.zero_le _)
theorem z_ne (g off c : Nat) (a b u x : ByteArray) (r : List ByteArray) (B : Nat) (w : World) (hBB : B ≤ w.heap.size) (hl : r.length ≤ 4398046511000) (hc : r.length + 4 ≤ c) (hz : ∀ s ∈ a :: b :: (r ++ [u, x]), s.size ≤ 4398046511104) (hi : StrsAt 0 B w (some ⟨g, off, none⟩) (a :: b :: (r ++ [u, x]))) (hu : (u.toList == [117, 110, 100, 111]) = true) (hx : z_ac x = true) (hr : r.length ≤ 3) (ha : z_ac a = false) :
  Calls Tryz.prog 198 #[.agg #[.int .i64 (3 : Nat), .string ⟨#[]⟩, .string ⟨#[]⟩, .slice none 0 0, .string ⟨#[]⟩], .slice (some ⟨g, off, none⟩) (r.length + 4) c] w (DoE B w (a :: b :: (r ++ [u, x]))) := by
 have HN : Hid (z_af ((3 : Nat) : Int) (a :: b :: (r ++ [u, x])) = none) := by show pDo (a :: b :: (r ++ [u, x])) = _; rw [z_bU a b u x r hu]; rw [if_pos hx, pDo0]; exact if_neg (by rw [ha]; exact fun h => Bool.noConfusion h.1)
 have q3 : (3 : Int) < r.length + 4 := by omega
 have q2 : ¬ (r.length : Int) + 2 < 2 := by omega
 have q5 : ¬ (5 : Int) < r.length + 2 := by omega
 have za := hz a (by simp)
 have zb := hz b (by simp)
 obtain ⟨_, _, e0, hB, k0⟩ := hi.at 0 (by simp)
 cases e0
 have c0 : w.cell? ⟨g, off, none⟩ = some (.string a) := k0
 obtain ⟨_, _, e1, _, k1⟩ := hi.at 1 (by simp)
 cases e1
 have c1 : w.cell? ⟨g, off + 1, none⟩ = some (.string b) := k1
 have hb0 : g < w.heap.size := Nat.lt_of_lt_of_le hB.2 hBB
 have HZ : Hid (∀ s ∈ r, s.size ≤ 9223372036854775807) := fun s hs => by have := hz s (by simp [hs]); omega
 have zx := hz x (by simp)
 have cu : w.cell? ⟨g, off + (r.length + 2), none⟩ = some (.string u) := by
  obtain ⟨_, _, e1, _, hc1⟩ := hi.at (r.length + 2) (by simp)
  cases e1
  simpa using hc1
 have cx : w.cell? ⟨g, off + (r.length + 3), none⟩ = some (.string x) := by
  obtain ⟨_, _, e1, _, hc1⟩ := hi.at (r.length + 3) (by simp)
  cases e1
  simpa using hc1
 have HD : Hid (StrsAt 0 B w (some ⟨g, off + 2, none⟩) r) := by
  have h1 := (hi.drop 2).take r.length
  rwa [show ((a :: b :: (r ++ [u, x])).drop 2).take r.length = r by simp] at h1
 have hc2 : ¬ c = 2 := by omega
 clear hi hz k0 k1
 go_enter Tryz.func198, Tryz.ntmps198
 go_wp2_with (first | (go_at_call_of 140 x; refine (z_a x _ (by omega)).mono ?_; rintro e wx ⟨rfl, rfl⟩; rw [hx]) | (go_at_call_of 140 a; refine (z_a a _ (by omega)).mono ?_; rintro e wx ⟨rfl, rfl⟩; rw [ha]))
 refine bodyPost_ret (v := .tuple #[.agg #[.int .i64 _, .string ⟨#[]⟩, .string ⟨#[]⟩, .slice none 0 0, .string x], .bool false]) (by simp [results, Tryz.results198, go_sem]; rfl) rfl ?_
 exact z_ee (args := []) (z_ab _ _ _) (Nat.le_refl _) (StrsAt.nil _ _ _ _) HN.out (Nat.zero_le _)
theorem z_ng (g off c : Nat) (a b u x : ByteArray) (r : List ByteArray) (B : Nat) (w : World) (hBB : B ≤ w.heap.size) (hl : r.length ≤ 4398046511000) (hc : r.length + 4 ≤ c) (hz : ∀ s ∈ a :: b :: (r ++ [u, x]), s.size ≤ 4398046511104) (hi : StrsAt 0 B w (some ⟨g, off, none⟩) (a :: b :: (r ++ [u, x]))) (hu : (u.toList == [117, 110, 100, 111]) = true) (hx : z_ac x = true) (hr : r.length ≤ 3) (ha : z_ac a = true) (hb : z_ac b = false) :
  Calls Tryz.prog 198 #[.agg #[.int .i64 (3 : Nat), .string ⟨#[]⟩, .string ⟨#[]⟩, .slice none 0 0, .string ⟨#[]⟩], .slice (some ⟨g, off, none⟩) (r.length + 4) c] w (DoE B w (a :: b :: (r ++ [u, x]))) := by
 have HN : Hid (z_af ((3 : Nat) : Int) (a :: b :: (r ++ [u, x])) = none) := by show pDo (a :: b :: (r ++ [u, x])) = _; rw [z_bU a b u x r hu]; rw [if_pos hx, pDo0]; exact if_neg (by rw [hb]; exact fun h => Bool.noConfusion h.2.1)
 have q3 : (3 : Int) < r.length + 4 := by omega
 have q2 : ¬ (r.length : Int) + 2 < 2 := by omega
 have q5 : ¬ (5 : Int) < r.length + 2 := by omega
 have za := hz a (by simp)
 have zb := hz b (by simp)
 obtain ⟨_, _, e0, hB, k0⟩ := hi.at 0 (by simp)
 cases e0
 have c0 : w.cell? ⟨g, off, none⟩ = some (.string a) := k0
 obtain ⟨_, _, e1, _, k1⟩ := hi.at 1 (by simp)
 cases e1
 have c1 : w.cell? ⟨g, off + 1, none⟩ = some (.string b) := k1
 have hb0 : g < w.heap.size := Nat.lt_of_lt_of_le hB.2 hBB
 have HZ : Hid (∀ s ∈ r, s.size ≤ 9223372036854775807) := fun s hs => by have := hz s (by simp [hs]); omega
 have zx := hz x (by simp)
 have cu : w.cell? ⟨g, off + (r.length + 2), none⟩ = some (.string u) := by
  obtain ⟨_, _, e1, _, hc1⟩ := hi.at (r.length + 2) (by simp)
  cases e1
  simpa using hc1
 have cx : w.cell? ⟨g, off + (r.length + 3), none⟩ = some (.string x) := by
  obtain ⟨_, _, e1, _, hc1⟩ := hi.at (r.length + 3) (by simp)
  cases e1
  simpa using hc1
 have HD : Hid (StrsAt 0 B w (some ⟨g, off + 2, none⟩) r) := by
  have h1 := (hi.drop 2).take r.length
  rwa [show ((a :: b :: (r ++ [u, x])).drop 2).take r.length = r by simp] at h1
 have hc2 : ¬ c = 2 := by omega
 clear hi hz k0 k1
 go_enter Tryz.func198, Tryz.ntmps198
 go_wp2_with (first | (go_at_call_of 140 x; refine (z_a x _ (by omega)).mono ?_; rintro e wx ⟨rfl, rfl⟩; rw [hx]) | (go_at_call_of 140 a; refine (z_a a _ (by omega)).mono ?_; rintro e wx ⟨rfl, rfl⟩; rw [ha]) | (go_at_call_of 140 b; refine (z_a b _ (by omega)).mono ?_; rintro e wx ⟨rfl, rfl⟩; rw [hb]))
 refine bodyPost_ret (v := .tuple #[.agg #[.int .i64 _, .string ⟨#[]⟩, .string ⟨#[]⟩, .slice none 0 0, .string x], .bool false]) (by simp [results, Tryz.results198, go_sem]; rfl) rfl ?_
 exact z_ee (args := []) (z_ab _ _ _) (Nat.le_refl _) (StrsAt.nil _ _ _ _) HN.out (Nat.zero_le _)
theorem z_nH (g off c : Nat) (a b u x : ByteArray) (r : List ByteArray) (B : Nat) (w : World) (hBB : B ≤ w.heap.size) (hl : r.length ≤ 4398046511000) (hc : r.length + 4 ≤ c) (hz : ∀ s ∈ a :: b :: (r ++ [u, x]), s.size ≤ 4398046511104) (hi : StrsAt 0 B w (some ⟨g, off, none⟩) (a :: b :: (r ++ [u, x]))) (hu : (u.toList == [117, 110, 100, 111]) = true) (hx : z_ac x = true) (hr : r.length ≤ 3) (ha : z_ac a = true) (hb : z_ac b = true) (ho : allB z_an r = false) :
  Calls Tryz.prog 198 #[.agg #[.int .i64 (3 : Nat), .string ⟨#[]⟩, .string ⟨#[]⟩, .slice none 0 0, .string ⟨#[]⟩], .slice (some ⟨g, off, none⟩) (r.length + 4) c] w (DoE B w (a :: b :: (r ++ [u, x]))) := by
 have HN : Hid (z_af ((3 : Nat) : Int) (a :: b :: (r ++ [u, x])) = none) := by show pDo (a :: b :: (r ++ [u, x])) = _; rw [z_bU a b u x r hu]; rw [if_pos hx, pDo0]; exact if_neg (by rw [ho]; exact fun h => Bool.noConfusion h.2.2.2)
 have q3 : (3 : Int) < r.length + 4 := by omega
 have q2 : ¬ (r.length : Int) + 2 < 2 := by omega
 have q5 : ¬ (5 : Int) < r.length + 2 := by omega
 have za := hz a (by simp)
 have zb := hz b (by simp)
 obtain ⟨_, _, e0, hB, k0⟩ := hi.at 0 (by simp)
 cases e0
 have c0 : w.cell? ⟨g, off, none⟩ = some (.string a) := k0
 obtain ⟨_, _, e1, _, k1⟩ := hi.at 1 (by simp)
 cases e1
 have c1 : w.cell? ⟨g, off + 1, none⟩ = some (.string b) := k1
 have hb0 : g < w.heap.size := Nat.lt_of_lt_of_le hB.2 hBB
 have HZ : Hid (∀ s ∈ r, s.size ≤ 9223372036854775807) := fun s hs => by have := hz s (by simp [hs]); omega
 have zx := hz x (by simp)
 have cu : w.cell? ⟨g, off + (r.length + 2), none⟩ = some (.string u) := by
  obtain ⟨_, _, e1, _, hc1⟩ := hi.at (r.length + 2) (by simp)
  cases e1
  simpa using hc1
 have cx : w.cell? ⟨g, off + (r.length + 3), none⟩ = some (.string x) := by
  obtain ⟨_, _, e1, _, hc1⟩ := hi.at (r.length + 3) (by simp)
  cases e1
  simpa using hc1
 have HD : Hid (StrsAt 0 B w (some ⟨g, off + 2, none⟩) r) := by
  have h1 := (hi.drop 2).take r.length
  rwa [show ((a :: b :: (r ++ [u, x])).drop 2).take r.length = r by simp] at h1
 have hc2 : ¬ c = 2 := by omega
 clear hi hz k0 k1
 go_enter Tryz.func198, Tryz.ntmps198
 go_wp2_with (first | (go_at_call_of 140 x; refine (z_a x _ (by omega)).mono ?_; rintro e wx ⟨rfl, rfl⟩; rw [hx]) | (go_at_call_of 140 a; refine (z_a a _ (by omega)).mono ?_; rintro e wx ⟨rfl, rfl⟩; rw [ha]) | (go_at_call_of 140 b; refine (z_a b _ (by omega)).mono ?_; rintro e wx ⟨rfl, rfl⟩; rw [hb]) | (go_at_call 197; refine (z_bw (some ⟨g, off + 2, none⟩) (c - 2) r.length r B _ rfl (by omega) HZ.out (HD.out.below ((z_ab _ _ _).mono hBB))).mono ?_; rintro e wx ⟨rfl, rfl⟩; rw [ho]))
 refine bodyPost_ret (v := .tuple #[.agg #[.int .i64 _, .string ⟨#[]⟩, .string ⟨#[]⟩, .slice none 0 0, .string x], .bool false]) (by simp [results, Tryz.results198, go_sem]; rfl) rfl ?_
 exact z_ee (args := []) (z_ab _ _ _) (Nat.le_refl _) (StrsAt.nil _ _ _ _) HN.out (Nat.zero_le _)
theorem z_nM (g off c : Nat) (a b u x : ByteArray) (r : List ByteArray) (B : Nat) (w : World) (hBB : B ≤ w.heap.size) (hl : r.length ≤ 4398046511000) (hc : r.length + 4 ≤ c) (hz : ∀ s ∈ a :: b :: (r ++ [u, x]), s.size ≤ 4398046511104) (hi : StrsAt 0 B w (some ⟨g, off, none⟩) (a :: b :: (r ++ [u, x]))) (hu : (u.toList == [117, 110, 100, 111]) = true) (hx : z_ac x = true) (hr : r.length ≤ 3) (ha : z_ac a = true) (hb : z_ac b = true) (ho : allB z_an r = true) :
  Calls Tryz.prog 198 #[.agg #[.int .i64 (3 : Nat), .string ⟨#[]⟩, .string ⟨#[]⟩, .slice none 0 0, .string ⟨#[]⟩], .slice (some ⟨g, off, none⟩) (r.length + 4) c] w (DoE B w (a :: b :: (r ++ [u, x]))) := by
 have HN : Hid (z_af ((3 : Nat) : Int) (a :: b :: (r ++ [u, x])) = some ⟨a, b, r, x⟩) := by show pDo (a :: b :: (r ++ [u, x])) = _; rw [z_bU a b u x r hu]; rw [if_pos hx, pDo0]; exact if_pos ⟨ha, hb, hr, ho⟩
 have q3 : (3 : Int) < r.length + 4 := by omega
 have q2 : ¬ (r.length : Int) + 2 < 2 := by omega
 have q5 : ¬ (5 : Int) < r.length + 2 := by omega
 have za := hz a (by simp)
 have zb := hz b (by simp)
 obtain ⟨_, _, e0, hB, k0⟩ := hi.at 0 (by simp)
 cases e0
 have c0 : w.cell? ⟨g, off, none⟩ = some (.string a) := k0
 obtain ⟨_, _, e1, _, k1⟩ := hi.at 1 (by simp)
 cases e1
 have c1 : w.cell? ⟨g, off + 1, none⟩ = some (.string b) := k1
 have hb0 : g < w.heap.size := Nat.lt_of_lt_of_le hB.2 hBB
 have HZ : Hid (∀ s ∈ r, s.size ≤ 9223372036854775807) := fun s hs => by have := hz s (by simp [hs]); omega
 have zx := hz x (by simp)
 have cu : w.cell? ⟨g, off + (r.length + 2), none⟩ = some (.string u) := by
  obtain ⟨_, _, e1, _, hc1⟩ := hi.at (r.length + 2) (by simp)
  cases e1
  simpa using hc1
 have cx : w.cell? ⟨g, off + (r.length + 3), none⟩ = some (.string x) := by
  obtain ⟨_, _, e1, _, hc1⟩ := hi.at (r.length + 3) (by simp)
  cases e1
  simpa using hc1
 have HD : Hid (StrsAt 0 B w (some ⟨g, off + 2, none⟩) r) := by
  have h1 := (hi.drop 2).take r.length
  rwa [show ((a :: b :: (r ++ [u, x])).drop 2).take r.length = r by simp] at h1
 have hc2 : ¬ c = 2 := by omega
 clear hi hz k0 k1
 go_enter Tryz.func198, Tryz.ntmps198
 go_wp2_with (first | (go_at_call_of 140 x; refine (z_a x _ (by omega)).mono ?_; rintro e wx ⟨rfl, rfl⟩; rw [hx]) | (go_at_call_of 140 a; refine (z_a a _ (by omega)).mono ?_; rintro e wx ⟨rfl, rfl⟩; rw [ha]) | (go_at_call_of 140 b; refine (z_a b _ (by omega)).mono ?_; rintro e wx ⟨rfl, rfl⟩; rw [hb]) | (go_at_call 197; refine (z_bw (some ⟨g, off + 2, none⟩) (c - 2) r.length r B _ rfl (by omega) HZ.out (HD.out.below ((z_ab _ _ _).mono hBB))).mono ?_; rintro e wx ⟨rfl, rfl⟩; rw [ho]))
 refine bodyPost_ret (v := .tuple #[.agg #[.int .i64 _, .string a, .string b, .slice (some ⟨g, off + 2, none⟩) r.length (c - 2), .string x], .bool true]) (by simp [results, Tryz.results198, go_sem]; rfl) rfl ?_
 exact z_kh (args := r) (z_ab _ _ _) (by omega) (HD.out.below ((z_ab _ _ _).mono hBB)) HN.out (by simp only [List.length_cons, List.length_append]; omega)
end
section
open Go.RowKit
theorem z_nB (g off c : Nat) (a b : ByteArray) (r : List ByteArray) (B : Nat) (w : World) (hBB : B ≤ w.heap.size) (hl : r.length ≤ 4398046511000) (hc : r.length + 2 ≤ c) (hz : ∀ s ∈ a :: b :: r, s.size ≤ 4398046511104) (hi : StrsAt 0 B w (some ⟨g, off, none⟩) (a :: b :: r)) (u : ByteArray) (hn : z_aJ (a :: b :: r) = false) (h3 : 2 ≤ r.length) (hu0 : (a :: b :: r)[r.length]'(by simp; omega) = u) (hu : (u.toList == [117, 110, 100, 111]) = false) (hr : 3 < r.length) :
  Calls Tryz.prog 198 #[.agg #[.int .i64 (3 : Nat), .string ⟨#[]⟩, .string ⟨#[]⟩, .slice none 0 0, .string ⟨#[]⟩], .slice (some ⟨g, off, none⟩) (r.length + 2) c] w (DoE B w (a :: b :: r)) := by
 have HN : Hid (z_af ((3 : Nat) : Int) (a :: b :: r) = none) := by show pDo (a :: b :: r) = _; rw [z_bE hn, pDo0]; exact if_neg (fun h => by have := h.2.2.1; omega)
 have q3 : (3 : Int) < r.length + 2 := by omega
 have q2 : ¬ (r.length : Int) + 2 < 2 := by omega
 have q5 : (5 : Int) < r.length + 2 := by omega
 have za := hz a (by simp)
 have zb := hz b (by simp)
 obtain ⟨_, _, e0, hB, k0⟩ := hi.at 0 (by simp)
 cases e0
 have c0 : w.cell? ⟨g, off, none⟩ = some (.string a) := k0
 obtain ⟨_, _, e1, _, k1⟩ := hi.at 1 (by simp)
 cases e1
 have c1 : w.cell? ⟨g, off + 1, none⟩ = some (.string b) := k1
 have hb0 : g < w.heap.size := Nat.lt_of_lt_of_le hB.2 hBB
 have HZ : Hid (∀ s ∈ r, s.size ≤ 9223372036854775807) := fun s hs => by have := hz s (by simp [hs]); omega
 have HD : Hid (StrsAt 0 B w (some ⟨g, off + 2, none⟩) r) := hi.drop 2
 have cu : w.cell? ⟨g, off + r.length, none⟩ = some (.string u) := by
  obtain ⟨_, _, e1, _, hc1⟩ := hi.at r.length (by simp; omega)
  cases e1
  rw [hc1]; rw [hu0]
 clear hi hz k0 k1
 go_enter Tryz.func198, Tryz.ntmps198
 go_wp2_with (first | fail)
 refine bodyPost_ret (v := .tuple #[.agg #[.int .i64 _, .string ⟨#[]⟩, .string ⟨#[]⟩, .slice none 0 0, .string ⟨#[]⟩], .bool false]) (by simp [results, Tryz.results198, go_sem]; rfl) rfl ?_
 exact z_ee (args := []) (z_ab _ _ _) (Nat.le_refl _) (StrsAt.nil _ _ _ _) HN.out (Nat.zero_le _)
theorem z_nw (g off c : Nat) (a b : ByteArray) (r : List ByteArray) (B : Nat) (w : World) (hBB : B ≤ w.heap.size) (hl : r.length ≤ 4398046511000) (hc : r.length + 2 ≤ c) (hz : ∀ s ∈ a :: b :: r, s.size ≤ 4398046511104) (hi : StrsAt 0 B w (some ⟨g, off, none⟩) (a :: b :: r)) (u : ByteArray) (hn : z_aJ (a :: b :: r) = false) (h3 : 2 ≤ r.length) (hu0 : (a :: b :: r)[r.length]'(by simp; omega) = u) (hu : (u.toList == [117, 110, 100, 111]) = false) (hr : r.length ≤ 3) (ha : z_ac a = false) :
  Calls Tryz.prog 198 #[.agg #[.int .i64 (3 : Nat), .string ⟨#[]⟩, .string ⟨#[]⟩, .slice none 0 0, .string ⟨#[]⟩], .slice (some ⟨g, off, none⟩) (r.length + 2) c] w (DoE B w (a :: b :: r)) := by
 have HN : Hid (z_af ((3 : Nat) : Int) (a :: b :: r) = none) := by show pDo (a :: b :: r) = _; rw [z_bE hn, pDo0]; exact if_neg (by rw [ha]; exact fun h => Bool.noConfusion h.1)
 have q3 : (3 : Int) < r.length + 2 := by omega
 have q2 : ¬ (r.length : Int) + 2 < 2 := by omega
 have q5 : ¬ (5 : Int) < r.length + 2 := by omega
 have za := hz a (by simp)
 have zb := hz b (by simp)
 obtain ⟨_, _, e0, hB, k0⟩ := hi.at 0 (by simp)
 cases e0
 have c0 : w.cell? ⟨g, off, none⟩ = some (.string a) := k0
 obtain ⟨_, _, e1, _, k1⟩ := hi.at 1 (by simp)
 cases e1
 have c1 : w.cell? ⟨g, off + 1, none⟩ = some (.string b) := k1
 have hb0 : g < w.heap.size := Nat.lt_of_lt_of_le hB.2 hBB
 have HZ : Hid (∀ s ∈ r, s.size ≤ 9223372036854775807) := fun s hs => by have := hz s (by simp [hs]); omega
 have HD : Hid (StrsAt 0 B w (some ⟨g, off + 2, none⟩) r) := hi.drop 2
 have cu : w.cell? ⟨g, off + r.length, none⟩ = some (.string u) := by
  obtain ⟨_, _, e1, _, hc1⟩ := hi.at r.length (by simp; omega)
  cases e1
  rw [hc1]; rw [hu0]
 clear hi hz k0 k1
 go_enter Tryz.func198, Tryz.ntmps198
 go_wp2_with (first | (go_at_call_of 140 a; refine (z_a a _ (by omega)).mono ?_; rintro e wx ⟨rfl, rfl⟩; rw [ha]))
 refine bodyPost_ret (v := .tuple #[.agg #[.int .i64 _, .string ⟨#[]⟩, .string ⟨#[]⟩, .slice none 0 0, .string ⟨#[]⟩], .bool false]) (by simp [results, Tryz.results198, go_sem]; rfl) rfl ?_
 exact z_ee (args := []) (z_ab _ _ _) (Nat.le_refl _) (StrsAt.nil _ _ _ _) HN.out (Nat.zero_le _)
theorem z_ni (g off c : Nat) (a b : ByteArray) (r : List ByteArray) (B : Nat) (w : World) (hBB : B ≤ w.heap.size) (hl : r.length ≤ 4398046511000) (hc : r.length + 2 ≤ c) (hz : ∀ s ∈ a :: b :: r, s.size ≤ 4398046511104) (hi : StrsAt 0 B w (some ⟨g, off, none⟩) (a :: b :: r)) (u : ByteArray) (hn : z_aJ (a :: b :: r) = false) (h3 : 2 ≤ r.length) (hu0 : (a :: b :: r)[r.length]'(by simp; omega) = u) (hu : (u.toList == [117, 110, 100, 111]) = false) (hr : r.length ≤ 3) (ha : z_ac a = true) (hb : z_ac b = false) :
  Calls Tryz.prog 198 #[.agg #[.int .i64 (3 : Nat), .string ⟨#[]⟩, .string ⟨#[]⟩, .slice none 0 0, .string ⟨#[]⟩], .slice (some ⟨g, off, none⟩) (r.length + 2) c] w (DoE B w (a :: b :: r)) := by
 have HN : Hid (z_af ((3 : Nat) : Int) (a :: b :: r) = none) := by show pDo (a :: b :: r) = _; rw [z_bE hn, pDo0]; exact if_neg (by rw [hb]; exact fun h => Bool.noConfusion h.2.1)
 have q3 : (3 : Int) < r.length + 2 := by omega
 have q2 : ¬ (r.length : Int) + 2 < 2 := by omega
 have q5 : ¬ (5 : Int) < r.length + 2 := by omega
 have za := hz a (by simp)
 have zb := hz b (by simp)
 obtain ⟨_, _, e0, hB, k0⟩ := hi.at 0 (by simp)
 cases e0
 have c0 : w.cell? ⟨g, off, none⟩ = some (.string a) := k0
 obtain ⟨_, _, e1, _, k1⟩ := hi.at 1 (by simp)
 cases e1
 have c1 : w.cell? ⟨g, off + 1, none⟩ = some (.string b) := k1
 have hb0 : g < w.heap.size := Nat.lt_of_lt_of_le hB.2 hBB
 have HZ : Hid (∀ s ∈ r, s.size ≤ 9223372036854775807) := fun s hs => by have := hz s (by simp [hs]); omega
 have HD : Hid (StrsAt 0 B w (some ⟨g, off + 2, none⟩) r) := hi.drop 2
 have cu : w.cell? ⟨g, off + r.length, none⟩ = some (.string u) := by
  obtain ⟨_, _, e1, _, hc1⟩ := hi.at r.length (by simp; omega)
  cases e1
  rw [hc1]; rw [hu0]
 clear hi hz k0 k1
 go_enter Tryz.func198, Tryz.ntmps198
 go_wp2_with (first | (go_at_call_of 140 a; refine (z_a a _ (by omega)).mono ?_; rintro e wx ⟨rfl, rfl⟩; rw [ha]) | (go_at_call_of 140 b; refine (z_a b _ (by omega)).mono ?_; rintro e wx ⟨rfl, rfl⟩; rw [hb]))
 refine bodyPost_ret (v := .tuple #[.agg #[.int .i64 _, .string ⟨#[]⟩, .string ⟨#[]⟩, .slice none 0 0, .string ⟨#[]⟩], .bool false]) (by simp [results, Tryz.results198, go_sem]; rfl) rfl ?_
 exact z_ee (args := []) (z_ab _ _ _) (Nat.le_refl _) (StrsAt.nil _ _ _ _) HN.out (Nat.zero_le _)
theorem z_nr (g off c : Nat) (a b : ByteArray) (r : List ByteArray) (B : Nat) (w : World) (hBB : B ≤ w.heap.size) (hl : r.length ≤ 4398046511000) (hc : r.length + 2 ≤ c) (hz : ∀ s ∈ a :: b :: r, s.size ≤ 4398046511104) (hi : StrsAt 0 B w (some ⟨g, off, none⟩) (a :: b :: r)) (u : ByteArray) (hn : z_aJ (a :: b :: r) = false) (h3 : 2 ≤ r.length) (hu0 : (a :: b :: r)[r.length]'(by simp; omega) = u) (hu : (u.toList == [117, 110, 100, 111]) = false) (hr : r.length ≤ 3) (hc2 : ¬ c = 2) (ha : z_ac a = true) (hb : z_ac b = true) (ho : allB z_an r = false) :
  Calls Tryz.prog 198 #[.agg #[.int .i64 (3 : Nat), .string ⟨#[]⟩, .string ⟨#[]⟩, .slice none 0 0, .string ⟨#[]⟩], .slice (some ⟨g, off, none⟩) (r.length + 2) c] w (DoE B w (a :: b :: r)) := by
 have HN : Hid (z_af ((3 : Nat) : Int) (a :: b :: r) = none) := by show pDo (a :: b :: r) = _; rw [z_bE hn, pDo0]; exact if_neg (by rw [ho]; exact fun h => Bool.noConfusion h.2.2.2)
 have q3 : (3 : Int) < r.length + 2 := by omega
 have q2 : ¬ (r.length : Int) + 2 < 2 := by omega
 have q5 : ¬ (5 : Int) < r.length + 2 := by omega
 have za := hz a (by simp)
 have zb := hz b (by simp)
 obtain ⟨_, _, e0, hB, k0⟩ := hi.at 0 (by simp)
 cases e0
 have c0 : w.cell? ⟨g, off, none⟩ = some (.string a) := k0
 obtain ⟨_, _, e1, _, k1⟩ := hi.at 1 (by simp)
 cases e1
 have c1 : w.cell? ⟨g, off + 1, none⟩ = some (.string b) := k1
 have hb0 : g < w.heap.size := Nat.lt_of_lt_of_le hB.2 hBB
 have HZ : Hid (∀ s ∈ r, s.size ≤ 9223372036854775807) := fun s hs => by have := hz s (by simp [hs]); omega
 have HD : Hid (StrsAt 0 B w (some ⟨g, off + 2, none⟩) r) := hi.drop 2
 have cu : w.cell? ⟨g, off + r.length, none⟩ = some (.string u) := by
  obtain ⟨_, _, e1, _, hc1⟩ := hi.at r.length (by simp; omega)
  cases e1
  rw [hc1]; rw [hu0]
 clear hi hz k0 k1
 go_enter Tryz.func198, Tryz.ntmps198
 go_wp2_with (first | (go_at_call_of 140 a; refine (z_a a _ (by omega)).mono ?_; rintro e wx ⟨rfl, rfl⟩; rw [ha]) | (go_at_call_of 140 b; refine (z_a b _ (by omega)).mono ?_; rintro e wx ⟨rfl, rfl⟩; rw [hb]) | (go_at_call 197; refine (z_bw (some ⟨g, off + 2, none⟩) (c - 2) r.length r B _ rfl (by omega) HZ.out (HD.out.below ((z_ab _ _ _).mono hBB))).mono ?_; rintro e wx ⟨rfl, rfl⟩; rw [ho]))
 refine bodyPost_ret (v := .tuple #[.agg #[.int .i64 _, .string ⟨#[]⟩, .string ⟨#[]⟩, .slice none 0 0, .string ⟨#[]⟩], .bool false]) (by simp [results, Tryz.results198, go_sem]; rfl) rfl ?_
 exact z_ee (args := []) (z_ab _ _ _) (Nat.le_refl _) (StrsAt.nil _ _ _ _) HN.out (Nat.zero_le _)
theorem z_nl (g off c : Nat) (a b : ByteArray) (r : List ByteArray) (B : Nat) (w : World) (hBB : B ≤ w.heap.size) (hl : r.length ≤ 4398046511000) (hc : r.length + 2 ≤ c) (hz : ∀ s ∈ a :: b :: r, s.size ≤ 4398046511104) (hi : StrsAt 0 B w (some ⟨g, off, none⟩) (a :: b :: r)) (u : ByteArray) (hn : z_aJ (a :: b :: r) = false) (h3 : 2 ≤ r.length) (hu0 : (a :: b :: r)[r.length]'(by simp; omega) = u) (hu : (u.toList == [117, 110, 100, 111]) = false) (hr : r.length ≤ 3) (hc2 : ¬ c = 2) (ha : z_ac a = true) (hb : z_ac b = true) (ho : allB z_an r = true) :
  Calls Tryz.prog 198 #[.agg #[.int .i64 (3 : Nat), .string ⟨#[]⟩, .string ⟨#[]⟩, .slice none 0 0, .string ⟨#[]⟩], .slice (some ⟨g, off, none⟩) (r.length + 2) c] w (DoE B w (a :: b :: r)) := by
 have HN : Hid (z_af ((3 : Nat) : Int) (a :: b :: r) = some ⟨a, b, r, eS⟩) := by show pDo (a :: b :: r) = _; rw [z_bE hn, pDo0]; exact if_pos ⟨ha, hb, hr, ho⟩
 have q3 : (3 : Int) < r.length + 2 := by omega
 have q2 : ¬ (r.length : Int) + 2 < 2 := by omega
 have q5 : ¬ (5 : Int) < r.length + 2 := by omega
 have za := hz a (by simp)
 have zb := hz b (by simp)
 obtain ⟨_, _, e0, hB, k0⟩ := hi.at 0 (by simp)
 cases e0
 have c0 : w.cell? ⟨g, off, none⟩ = some (.string a) := k0
 obtain ⟨_, _, e1, _, k1⟩ := hi.at 1 (by simp)
 cases e1
 have c1 : w.cell? ⟨g, off + 1, none⟩ = some (.string b) := k1
 have hb0 : g < w.heap.size := Nat.lt_of_lt_of_le hB.2 hBB
 have HZ : Hid (∀ s ∈ r, s.size ≤ 9223372036854775807) := fun s hs => by have := hz s (by simp [hs]); omega
 have HD : Hid (StrsAt 0 B w (some ⟨g, off + 2, none⟩) r) := hi.drop 2
 have cu : w.cell? ⟨g, off + r.length, none⟩ = some (.string u) := by
  obtain ⟨_, _, e1, _, hc1⟩ := hi.at r.length (by simp; omega)
  cases e1
  rw [hc1]; rw [hu0]
 clear hi hz k0 k1
 go_enter Tryz.func198, Tryz.ntmps198
 go_wp2_with (first | (go_at_call_of 140 a; refine (z_a a _ (by omega)).mono ?_; rintro e wx ⟨rfl, rfl⟩; rw [ha]) | (go_at_call_of 140 b; refine (z_a b _ (by omega)).mono ?_; rintro e wx ⟨rfl, rfl⟩; rw [hb]) | (go_at_call 197; refine (z_bw (some ⟨g, off + 2, none⟩) (c - 2) r.length r B _ rfl (by omega) HZ.out (HD.out.below ((z_ab _ _ _).mono hBB))).mono ?_; rintro e wx ⟨rfl, rfl⟩; rw [ho]))
 refine bodyPost_ret (v := .tuple #[.agg #[.int .i64 _, .string a, .string b, .slice (some ⟨g, off + 2, none⟩) r.length (c - 2), .string ⟨#[]⟩], .bool true]) (by simp [results, Tryz.results198, go_sem]; rfl) rfl ?_
 exact z_kh (args := r) (z_ab _ _ _) (by omega) (HD.out.below ((z_ab _ _ _).mono hBB)) HN.out (by simp only [List.length_cons]; omega)
theorem z_nK (g off c : Nat) (a b : ByteArray) (r : List ByteArray) (B : Nat) (w : World) (hBB : B ≤ w.heap.size) (hl : r.length ≤ 4398046511000) (hc : r.length + 2 ≤ c) (hz : ∀ s ∈ a :: b :: r, s.size ≤ 4398046511104) (hi : StrsAt 0 B w (some ⟨g, off, none⟩) (a :: b :: r)) (hn : z_aJ (a :: b :: r) = false) (h3f : r.length < 2) (ha : z_ac a = false) :
  Calls Tryz.prog 198 #[.agg #[.int .i64 (3 : Nat), .string ⟨#[]⟩, .string ⟨#[]⟩, .slice none 0 0, .string ⟨#[]⟩], .slice (some ⟨g, off, none⟩) (r.length + 2) c] w (DoE B w (a :: b :: r)) := by
 have HN : Hid (z_af ((3 : Nat) : Int) (a :: b :: r) = none) := by show pDo (a :: b :: r) = _; rw [z_bE hn, pDo0]; exact if_neg (by rw [ha]; exact fun h => Bool.noConfusion h.1)
 have q3 : ¬ (3 : Int) < r.length + 2 := by omega
 have q2 : ¬ (r.length : Int) + 2 < 2 := by omega
 have q5 : ¬ (5 : Int) < r.length + 2 := by omega
 have za := hz a (by simp)
 have zb := hz b (by simp)
 obtain ⟨_, _, e0, hB, k0⟩ := hi.at 0 (by simp)
 cases e0
 have c0 : w.cell? ⟨g, off, none⟩ = some (.string a) := k0
 obtain ⟨_, _, e1, _, k1⟩ := hi.at 1 (by simp)
 cases e1
 have c1 : w.cell? ⟨g, off + 1, none⟩ = some (.string b) := k1
 have hb0 : g < w.heap.size := Nat.lt_of_lt_of_le hB.2 hBB
 have HZ : Hid (∀ s ∈ r, s.size ≤ 9223372036854775807) := fun s hs => by have := hz s (by simp [hs]); omega
 have HD : Hid (StrsAt 0 B w (some ⟨g, off + 2, none⟩) r) := hi.drop 2
 clear hi hz k0 k1
 go_enter Tryz.func198, Tryz.ntmps198
 go_wp2_with (first | (go_at_call_of 140 a; refine (z_a a _ (by omega)).mono ?_; rintro e wx ⟨rfl, rfl⟩; rw [ha]))
 refine bodyPost_ret (v := .tuple #[.agg #[.int .i64 _, .string ⟨#[]⟩, .string ⟨#[]⟩, .slice none 0 0, .string ⟨#[]⟩], .bool false]) (by simp [results, Tryz.results198, go_sem]; rfl) rfl ?_
 exact z_ee (args := []) (z_ab _ _ _) (Nat.le_refl _) (StrsAt.nil _ _ _ _) HN.out (Nat.zero_le _)
theorem z_nh (g off c : Nat) (a b : ByteArray) (r : List ByteArray) (B : Nat) (w : World) (hBB : B ≤ w.heap.size) (hl : r.length ≤ 4398046511000) (hc : r.length + 2 ≤ c) (hz : ∀ s ∈ a :: b :: r, s.size ≤ 4398046511104) (hi : StrsAt 0 B w (some ⟨g, off, none⟩) (a :: b :: r)) (hn : z_aJ (a :: b :: r) = false) (h3f : r.length < 2) (ha : z_ac a = true) (hb : z_ac b = false) :
  Calls Tryz.prog 198 #[.agg #[.int .i64 (3 : Nat), .string ⟨#[]⟩, .string ⟨#[]⟩, .slice none 0 0, .string ⟨#[]⟩], .slice (some ⟨g, off, none⟩) (r.length + 2) c] w (DoE B w (a :: b :: r)) := by
 have HN : Hid (z_af ((3 : Nat) : Int) (a :: b :: r) = none) := by show pDo (a :: b :: r) = _; rw [z_bE hn, pDo0]; exact if_neg (by rw [hb]; exact fun h => Bool.noConfusion h.2.1)
 have q3 : ¬ (3 : Int) < r.length + 2 := by omega
 have q2 : ¬ (r.length : Int) + 2 < 2 := by omega
 have q5 : ¬ (5 : Int) < r.length + 2 := by omega
 have za := hz a (by simp)
 have zb := hz b (by simp)
 obtain ⟨_, _, e0, hB, k0⟩ := hi.at 0 (by simp)
 cases e0
 have c0 : w.cell? ⟨g, off, none⟩ = some (.string a) := k0
 obtain ⟨_, _, e1, _, k1⟩ := hi.at 1 (by simp)
 cases e1
 have c1 : w.cell? ⟨g, off + 1, none⟩ = some (.string b) := k1
 have hb0 : g < w.heap.size := Nat.lt_of_lt_of_le hB.2 hBB
 have HZ : Hid (∀ s ∈ r, s.size ≤ 9223372036854775807) := fun s hs => by have := hz s (by simp [hs]); omega
 have HD : Hid (StrsAt 0 B w (some ⟨g, off + 2, none⟩) r) := hi.drop 2
 clear hi hz k0 k1
 go_enter Tryz.func198, Tryz.ntmps198
 go_wp2_with (first | (go_at_call_of 140 a; refine (z_a a _ (by omega)).mono ?_; rintro e wx ⟨rfl, rfl⟩; rw [ha]) | (go_at_call_of 140 b; refine (z_a b _ (by omega)).mono ?_; rintro e wx ⟨rfl, rfl⟩; rw [hb]))
 refine bodyPost_ret (v := .tuple #[.agg #[.int .i64 _, .string ⟨#[]⟩, .string ⟨#[]⟩, .slice none 0 0, .string ⟨#[]⟩], .bool false]) (by simp [results, Tryz.results198, go_sem]; rfl) rfl ?_
 exact z_ee (args := []) (z_ab _ _ _) (Nat.le_refl _) (StrsAt.nil _ _ _ _) HN.out (Nat.zero_le _)
theorem z_nk (g off c : Nat) (a b : ByteArray) (r : List ByteArray) (B : Nat) (w : World) (hBB : B ≤ w.heap.size) (hl : r.length ≤ 4398046511000) (hc : r.length + 2 ≤ c) (hz : ∀ s ∈ a :: b :: r, s.size ≤ 4398046511104) (hi : StrsAt 0 B w (some ⟨g, off, none⟩) (a :: b :: r)) (hn : z_aJ (a :: b :: r) = false) (h3f : r.length < 2) (hc2 : ¬ c = 2) (ha : z_ac a = true) (hb : z_ac b = true) (ho : allB z_an r = false) :
  Calls Tryz.prog 198 #[.agg #[.int .i64 (3 : Nat), .string ⟨#[]⟩, .string ⟨#[]⟩, .slice none 0 0, .string ⟨#[]⟩], .slice (some ⟨g, off, none⟩) (r.length + 2) c] w (DoE B w (a :: b :: r)) := by
 have HN : Hid (z_af ((3 : Nat) : Int) (a :: b :: r) = none) := by show pDo (a :: b :: r) = _; rw [z_bE hn, pDo0]; exact if_neg (by rw [ho]; exact fun h => Bool.noConfusion h.2.2.2)
 have q3 : ¬ (3 : Int) < r.length + 2 := by omega
 have q2 : ¬ (r.length : Int) + 2 < 2 := by omega
 have q5 : ¬ (5 : Int) < r.length + 2 := by omega
 have za := hz a (by simp)
 have zb := hz b (by simp)
 obtain ⟨_, _, e0, hB, k0⟩ := hi.at 0 (by simp)
 cases e0
 have c0 : w.cell? ⟨g, off, none⟩ = some (.string a) := k0
 obtain ⟨_, _, e1, _, k1⟩ := hi.at 1 (by simp)
 cases e1
 have c1 : w.cell? ⟨g, off + 1, none⟩ = some (.string b) := k1
 have hb0 : g < w.heap.size := Nat.lt_of_lt_of_le hB.2 hBB
 have HZ : Hid (∀ s ∈ r, s.size ≤ 9223372036854775807) := fun s hs => by have := hz s (by simp [hs]); omega
 have HD : Hid (StrsAt 0 B w (some ⟨g, off + 2, none⟩) r) := hi.drop 2
 clear hi hz k0 k1
 go_enter Tryz.func198, Tryz.ntmps198
 go_wp2_with (first | (go_at_call_of 140 a; refine (z_a a _ (by omega)).mono ?_; rintro e wx ⟨rfl, rfl⟩; rw [ha]) | (go_at_call_of 140 b; refine (z_a b _ (by omega)).mono ?_; rintro e wx ⟨rfl, rfl⟩; rw [hb]) | (go_at_call 197; refine (z_bw (some ⟨g, off + 2, none⟩) (c - 2) r.length r B _ rfl (by omega) HZ.out (HD.out.below ((z_ab _ _ _).mono hBB))).mono ?_; rintro e wx ⟨rfl, rfl⟩; rw [ho]))
 refine bodyPost_ret (v := .tuple #[.agg #[.int .i64 _, .string ⟨#[]⟩, .string ⟨#[]⟩, .slice none 0 0, .string ⟨#[]⟩], .bool false]) (by simp [results, Tryz.results198, go_sem]; rfl) rfl ?_
 exact z_ee (args := []) (z_ab _ _ _) (Nat.le_refl _) (StrsAt.nil _ _ _ _) HN.out (Nat.zero_le _)
theorem z_nE (g off c : Nat) (a b : ByteArray) (r : List ByteArray) (B : Nat) (w : World) (hBB : B ≤ w.heap.size) (hl : r.length ≤ 4398046511000) (hc : r.length + 2 ≤ c) (hz : ∀ s ∈ a :: b :: r, s.size ≤ 4398046511104) (hi : StrsAt 0 B w (some ⟨g, off, none⟩) (a :: b :: r)) (hn : z_aJ (a :: b :: r) = false) (h3f : r.length < 2) (hc2 : ¬ c = 2) (ha : z_ac a = true) (hb : z_ac b = true) (ho : allB z_an r = true) :
  Calls Tryz.prog 198 #[.agg #[.int .i64 (3 : Nat), .string ⟨#[]⟩, .string ⟨#[]⟩, .slice none 0 0, .string ⟨#[]⟩], .slice (some ⟨g, off, none⟩) (r.length + 2) c] w (DoE B w (a :: b :: r)) := by
 have HN : Hid (z_af ((3 : Nat) : Int) (a :: b :: r) = some ⟨a, b, r, eS⟩) := by show pDo (a :: b :: r) = _; rw [z_bE hn, pDo0]; exact if_pos ⟨ha, hb, by omega, ho⟩
 have q3 : ¬ (3 : Int) < r.length + 2 := by omega
 have q2 : ¬ (r.length : Int) + 2 < 2 := by omega
 have q5 : ¬ (5 : Int) < r.length + 2 := by omega
 have za := hz a (by simp)
 have zb := hz b (by simp)
 obtain ⟨_, _, e0, hB, k0⟩ := hi.at 0 (by simp)
 cases e0
 have c0 : w.cell? ⟨g, off, none⟩ = some (.string a) := k0
 obtain ⟨_, _, e1, _, k1⟩ := hi.at 1 (by simp)
 cases e1
 have c1 : w.cell? ⟨g, off + 1, none⟩ = some (.string b) := k1
 have hb0 : g < w.heap.size := Nat.lt_of_lt_of_le hB.2 hBB
 have HZ : Hid (∀ s ∈ r, s.size ≤ 9223372036854775807) := fun s hs => by have := hz s (by simp [hs]); omega
 have HD : Hid (StrsAt 0 B w (some ⟨g, off + 2, none⟩) r) := hi.drop 2
 clear hi hz k0 k1
 go_enter Tryz.func198, Tryz.ntmps198
 go_wp2_with (first | (go_at_call_of 140 a; refine (z_a a _ (by omega)).mono ?_; rintro e wx ⟨rfl, rfl⟩; rw [ha]) | (go_at_call_of 140 b; refine (z_a b _ (by omega)).mono ?_; rintro e wx ⟨rfl, rfl⟩; rw [hb]) | (go_at_call 197; refine (z_bw (some ⟨g, off + 2, none⟩) (c - 2) r.length r B _ rfl (by omega) HZ.out (HD.out.below ((z_ab _ _ _).mono hBB))).mono ?_; rintro e wx ⟨rfl, rfl⟩; rw [ho]))
 refine bodyPost_ret (v := .tuple #[.agg #[.int .i64 _, .string a, .string b, .slice (some ⟨g, off + 2, none⟩) r.length (c - 2), .string ⟨#[]⟩], .bool true]) (by simp [results, Tryz.results198, go_sem]; rfl) rfl ?_
 exact z_kh (args := r) (z_ab _ _ _) (by omega) (HD.out.below ((z_ab _ _ _).mono hBB)) HN.out (by simp only [List.length_cons]; omega)
theorem z_mC (g off : Nat) (a b : ByteArray) (B : Nat) (w : World) (hBB : B ≤ w.heap.size) (hz : ∀ s ∈ [a, b], s.size ≤ 4398046511104) (hi : StrsAt 0 B w (some ⟨g, off, none⟩) [a, b]) (ha : z_ac a = true) (hb : z_ac b = true) :
  Calls Tryz.prog 198 #[.agg #[.int .i64 (3 : Nat), .string ⟨#[]⟩, .string ⟨#[]⟩, .slice none 0 0, .string ⟨#[]⟩], .slice (some ⟨g, off, none⟩) 2 2] w (DoE B w [a, b]) := by
 have HN : Hid (z_af ((3 : Nat) : Int) [a, b] = some ⟨a, b, [], eS⟩) := by show pDo [a, b] = _; rw [z_bE rfl, pDo0]; exact if_pos ⟨ha, hb, by decide, rfl⟩
 have za := hz a (by simp)
 have zb := hz b (by simp)
 obtain ⟨_, _, e0, hB, k0⟩ := hi.at 0 (by simp)
 cases e0
 have c0 : w.cell? ⟨g, off, none⟩ = some (.string a) := k0
 obtain ⟨_, _, e1, _, k1⟩ := hi.at 1 (by simp)
 cases e1
 have c1 : w.cell? ⟨g, off + 1, none⟩ = some (.string b) := k1
 have hb0 : g < w.heap.size := Nat.lt_of_lt_of_le hB.2 hBB
 clear hi hz k0 k1
 go_enter Tryz.func198, Tryz.ntmps198
 go_wp2_with (first | (go_at_call_of 140 a; refine (z_a a _ (by omega)).mono ?_; rintro e wx ⟨rfl, rfl⟩; rw [ha]) | (go_at_call_of 140 b; refine (z_a b _ (by omega)).mono ?_; rintro e wx ⟨rfl, rfl⟩; rw [hb]) | (go_at_call 197; refine (z_bw (some ⟨g, off, none⟩) 0 0 [] B _ rfl (by simp) (by simp) (StrsAt.nil _ _ _ _)).mono ?_; rintro e wx ⟨rfl, rfl⟩; rw [show allB z_an [] = true from rfl]))
 refine bodyPost_ret (v := .tuple #[.agg #[.int .i64 _, .string a, .string b, .slice (some ⟨g, off, none⟩) 0 0, .string ⟨#[]⟩], .bool true]) (by simp [results, Tryz.results198, go_sem]; rfl) rfl ?_
 exact z_kh (args := []) (z_ab _ _ _) (Nat.zero_le _) (StrsAt.nil _ _ _ _) HN.out (Nat.zero_le _)
end
end Go.Proofs.YtlbjjbolbopfmaaGreatDoor
