import Derived.Test.YtlbjjbolbopfmaaGreatDoorI20
namespace Go.Proofs.YtlbjjbolbopfmaaGreatDoor
set_option maxHeartbeats 8000000
set_option maxRecDepth 1000000
set_option linter.unusedVariables false
section
open Go.RowKit
theorem z_cX (t : ByteArray) : hasB z_cz t = z_cC t := by
 have e : ∀ l : List UInt8, decide ((⟨l.toArray⟩ : ByteArray) = t) = (t.toList == l) := fun l => by
  rw [z_lc]
  by_cases h : t = ⟨l.toArray⟩
  ·rw [decide_eq_true h, decide_eq_true h.symm]
  ·rw [decide_eq_false h, decide_eq_false (fun x => h x.symm)]
 have e1 := e [108, 101, 115, 115]
 have e2 := e [115, 97, 109, 101]
 have e3 := e [109, 111, 114, 101]
 have e4 := e [111, 116, 104, 101, 114]
 unfold hasB z_cz z_cC
 simp only [List.any_cons, List.any_nil, Bool.or_false]
 rw [← e1, ← e2, ← e3, ← e4]
theorem z_jP {ws : List ByteArray} (h : ws.length = 3) : ∃ a b d, ws = [a, b, d] := by
 match ws, h with
 | [a, b, d], _ => exact ⟨a, b, d, rfl⟩
theorem z_bz {w w1 : World} {a0 a1 a2 a3 a4 b0 b1 b2 b3 b4 : Value} {ss : List ByteArray} (h : Below ((w.alloc (.cells #[a0, a1, a2, a3, a4] 49)).alloc (.cells #[b0, b1, b2, b3, b4] 49)).drew.heap.size ((w.alloc (.cells #[a0, a1, a2, a3, a4] 49)).alloc (.cells #[b0, b1, b2, b3, b4] 49)).drew w1) (hs : StrsAt ((w.alloc (.cells #[a0, a1, a2, a3, a4] 49)).alloc (.cells #[b0, b1, b2, b3, b4] 49)).drew.heap.size w1.heap.size w1 (some ⟨((w.alloc (.cells #[a0, a1, a2, a3, a4] 49)).alloc (.cells #[b0, b1, b2, b3, b4] 49)).drew.heap.size, 0, none⟩) ss) :
  Hid (Below w.heap.size w w1) ∧ Hid (StrsAt 0 w1.heap.size w1 (some ⟨w.heap.size + 1 + 1, 0, none⟩) ss) ∧ (w.heap.size < w1.heap.size ∧ w.heap.size + 1 < w1.heap.size) ∧ (w1.cell? ⟨w.heap.size, 0, none⟩ = some a0 ∧ w1.cell? ⟨w.heap.size, 1, none⟩ = some a1 ∧ w1.cell? ⟨w.heap.size, 2, none⟩ = some a2 ∧ w1.cell? ⟨w.heap.size, 3, none⟩ = some a3 ∧ w1.cell? ⟨w.heap.size, 4, none⟩ = some a4)
  ∧ (w1.cell? ⟨w.heap.size + 1, 0, none⟩ = some b0 ∧ w1.cell? ⟨w.heap.size + 1, 1, none⟩ = some b1 ∧ w1.cell? ⟨w.heap.size + 1, 2, none⟩ = some b2 ∧ w1.cell? ⟨w.heap.size + 1, 3, none⟩ = some b3 ∧ w1.cell? ⟨w.heap.size + 1, 4, none⟩ = some b4)
  ∧ (∀ j, w1.frozen? ⟨w.heap.size, j, none⟩ = false) ∧ (∀ j, w1.frozen? ⟨w.heap.size + 1, j, none⟩ = false) := by
 have e : ((w.alloc (.cells #[a0, a1, a2, a3, a4] 49)).alloc (.cells #[b0, b1, b2, b3, b4] 49)).drew.heap.size = w.heap.size + 1 + 1 := by simp
 rw [e] at hs h
 have hc0 := fun j => h.cell (p := ⟨w.heap.size, j, none⟩) (by show w.heap.size < w.heap.size + 1 + 1; omega)
 have hc1 := fun j => h.cell (p := ⟨w.heap.size + 1, j, none⟩) (by show w.heap.size + 1 < w.heap.size + 1 + 1; omega)
 have hf0 := fun j => h.frozen (p := ⟨w.heap.size, j, none⟩) (by show w.heap.size < w.heap.size + 1 + 1; omega)
 have hf1 := fun j => h.frozen (p := ⟨w.heap.size + 1, j, none⟩) (by show w.heap.size + 1 < w.heap.size + 1 + 1; omega)
 refine ⟨(z_ab w _ _).drew.trans (h.mono (by omega)), hs.mono (Nat.zero_le _) (Nat.le_refl _), by have := h.size; rw [e] at this; exact ⟨by omega, by omega⟩, ⟨?_, ?_, ?_, ?_, ?_⟩, ⟨?_, ?_, ?_, ?_, ?_⟩, fun j => ?_, fun j => ?_⟩
 all_goals first | (rw [hc0]; simp [go_sem]; done) | (rw [hc1]; simp [go_sem]; done) | (rw [hf0]; simp [go_sem]; done) | (rw [hf1]; simp [go_sem]; done)
theorem z_az {w w1 : World} (h : Below w.heap.size w w1) (v0 v1 v2 v3 v4 : Value) : Below w.heap.size w (((((w1.setCell ⟨w.heap.size, 0, none⟩ v0).setCell ⟨w.heap.size, 1, none⟩ v1).setCell ⟨w.heap.size, 2, none⟩ v2).setCell ⟨w.heap.size, 3, none⟩ v3).setCell ⟨w.heap.size, 4, none⟩ v4) :=
 ((((h.setCell (Nat.le_refl _) _).setCell (Nat.le_refl _) _).setCell (Nat.le_refl _) _).setCell (Nat.le_refl _) _).setCell (Nat.le_refl _) _
theorem z_fz (k : Nat) (hk : k = 6 ∨ k = 8) (ao : Option Addr) (c : Nat) (ws : List ByteArray) (w : World) (hl : ws.length ≤ 4398046511000) (h3 : ws.length ≠ 3) :
  Calls Tryz.prog 171 #[.int .i64 k, .slice ao ws.length c] w (z_bg w k ws) := by
 have HN : Hid (z_af (k : Int) ws = none) := by
  have : z_af (k : Int) ws = pTest ws := by rcases hk with rfl | rfl <;> rfl
  show _ = _; rw [this]
  match ws, h3 with
  | [], _ => rfl
  | [_], _ => rfl
  | [_, _], _ => rfl
  | [_, _, _], h => exact absurd rfl h
  | _ :: _ :: _ :: _ :: _, _ => rfl
 have b3 : ((ws.length : Int) != 3) = true := by simp; omega
 clear h3
 rcases hk with rfl | rfl
 all_goals
  go_enter Tryz.func171, Tryz.ntmps171
  go_wp2_with fail
  go_region
  go_wp2_with fail
  refine bodyPost_ret (v := .tuple #[.agg #[.int .i64 _, .string ⟨#[]⟩, .string ⟨#[]⟩, .slice none 0 0, .string ⟨#[]⟩], .bool false]) (by simp [results, Tryz.results171, go_sem]; rfl) rfl ?_
  exact z_aH (args := []) (z_ab _ _ _).drew (Nat.le_refl _) (StrsAt.nil _ _ _ _) HN.out (Nat.zero_le _)
theorem z_j0 {w wx X : World} (hX : X.heap.size = wx.heap.size) (hB : Below w.heap.size w X) (a b : ByteArray) :
  Below w.heap.size w ((X.alloc (.cells #[.string a, .string b] 9)).drew) ∧ StrsAt 0 ((X.alloc (.cells #[.string a, .string b] 9)).drew).heap.size ((X.alloc (.cells #[.string a, .string b] 9)).drew) (some ⟨wx.heap.size, 0, none⟩) [a, b] := by
 have h := z_ck X [a, b] 9
 rw [hX] at h
 exact ⟨(hB.alloc hB.size _).drew, h.mono (Nat.zero_le _) (Nat.le_refl _)⟩
theorem ret5 {Y : World} {n : Nat} (hn : n < Y.heap.size) {x0 x1 x2 x3 x4 : Value} (h0 : Y.cell? ⟨n, 0, none⟩ = some x0) (h1 : Y.cell? ⟨n, 1, none⟩ = some x1) (h2 : Y.cell? ⟨n, 2, none⟩ = some x2) (h3 : Y.cell? ⟨n, 3, none⟩ = some x3) (h4 : Y.cell? ⟨n, 4, none⟩ = some x4) (v0 v1 v2 v3 v4 : Value) (o : Obj) :
  (((((((Y.setCell ⟨n, 0, none⟩ v0).setCell ⟨n, 1, none⟩ v1).setCell ⟨n, 2, none⟩ v2).setCell ⟨n, 3, none⟩ v3).setCell ⟨n, 4, none⟩ v4).alloc o).cell? ⟨n, 0, none⟩ = some v0)
  ∧ (((((((Y.setCell ⟨n, 0, none⟩ v0).setCell ⟨n, 1, none⟩ v1).setCell ⟨n, 2, none⟩ v2).setCell ⟨n, 3, none⟩ v3).setCell ⟨n, 4, none⟩ v4).alloc o).cell? ⟨n, 1, none⟩ = some v1)
  ∧ (((((((Y.setCell ⟨n, 0, none⟩ v0).setCell ⟨n, 1, none⟩ v1).setCell ⟨n, 2, none⟩ v2).setCell ⟨n, 3, none⟩ v3).setCell ⟨n, 4, none⟩ v4).alloc o).cell? ⟨n, 2, none⟩ = some v2)
  ∧ (((((((Y.setCell ⟨n, 0, none⟩ v0).setCell ⟨n, 1, none⟩ v1).setCell ⟨n, 2, none⟩ v2).setCell ⟨n, 3, none⟩ v3).setCell ⟨n, 4, none⟩ v4).alloc o).cell? ⟨n, 3, none⟩ = some v3)
  ∧ (((((((Y.setCell ⟨n, 0, none⟩ v0).setCell ⟨n, 1, none⟩ v1).setCell ⟨n, 2, none⟩ v2).setCell ⟨n, 3, none⟩ v3).setCell ⟨n, 4, none⟩ v4).alloc o).cell? ⟨n, 4, none⟩ = some v4) := by
 have hs : n < (((((Y.setCell ⟨n, 0, none⟩ v0).setCell ⟨n, 1, none⟩ v1).setCell ⟨n, 2, none⟩ v2).setCell ⟨n, 3, none⟩ v3).setCell ⟨n, 4, none⟩ v4).heap.size := by simpa [World.setCell] using hn
 refine ⟨?_, ?_, ?_, ?_, ?_⟩ <;> (rw [World.cell?_alloc_past _ _ _ hs]; simp [go_sem, h0, h1, h2, h3, h4])
end
section
open Go.RowKit
theorem z_hJ (k : Nat) (hk : k = 6 ∨ k = 8) (g off c : Nat) (a t b : ByteArray) (w : World) (hc : 3 ≤ c) (hz : ∀ s ∈ [a, t, b], s.size ≤ 4398046511104) (hi : StrsAt 0 w.heap.size w (some ⟨g, off, none⟩) [a, t, b]) (ht : z_cC t = false) :
  Calls Tryz.prog 171 #[.int .i64 k, .slice (some ⟨g, off, none⟩) 3 c] w (z_bg w k [a, t, b]) := by
 have HN : Hid (z_af (k : Int) [a, t, b] = none) := by
  have : z_af (k : Int) [a, t, b] = pTest [a, t, b] := by rcases hk with rfl | rfl <;> rfl
  show _ = _; rw [this, pTest]; exact if_neg (by rw [ht]; exact fun h => Bool.noConfusion h.2.1)
 have hh : hasB z_cz t = false := by rw [z_cX]; exact ht
 have za := hz a (by simp)
 have zb := hz b (by simp)
 obtain ⟨_, _, e0, hB, k0⟩ := hi.at 0 (by simp)
 cases e0
 have c0 : w.cell? ⟨g, off, none⟩ = some (.string a) := k0
 obtain ⟨_, _, e1, _, k1⟩ := hi.at 1 (by simp)
 cases e1
 have c1 : w.cell? ⟨g, off + 1, none⟩ = some (.string t) := k1
 obtain ⟨_, _, e2, _, k2⟩ := hi.at 2 (by simp)
 cases e2
 have c2 : w.cell? ⟨g, off + 2, none⟩ = some (.string b) := k2
 have hb0 : g < w.heap.size := hB.2
 clear hi hz k0 k1 k2
 rcases hk with rfl | rfl
 all_goals
  go_enter Tryz.func171, Tryz.ntmps171
  go_wp2_with fail
  first
   | go_region_with (first | (go_at_call 179; refine (z_ct _).mono ?_; rintro e w1 ⟨rfl, hb1, hs1⟩; obtain ⟨HB1, HS1, ⟨hz1, hz2⟩, ⟨r0, r1, r2, r3, r4⟩, ⟨s0, s1, s2, s3, s4⟩, f0, f1⟩ := z_bz hb1 hs1; have d0 := (HB1.out.cell (p := ⟨g, off, none⟩) hb0).trans c0; have d1 := (HB1.out.cell (p := ⟨g, off + 1, none⟩) hb0).trans c1; have d2 := (HB1.out.cell (p := ⟨g, off + 2, none⟩) hb0).trans c2; clear hb1 hs1) | (go_at_call 141; refine (z_aF _ 4 z_cz t _ _ (by decide) HS1.out).mono ?_; rintro e w2 ⟨rfl, rfl⟩; rw [hh]))
   | fail
  all_goals
   go_wp2_with fail
   refine bodyPost_ret (v := .tuple #[.agg #[.int .i64 _, .string ⟨#[]⟩, .string ⟨#[]⟩, .slice none 0 0, .string ⟨#[]⟩], .bool false]) (by simp [results, Tryz.results171, go_sem, r0, r1, r2, r3, r4]; rfl) rfl ?_
   exact z_aH (args := []) (z_az HB1.out _ _ _ _ _) (Nat.le_refl _) (StrsAt.nil _ _ _ _) HN.out (Nat.zero_le _)
end
end Go.Proofs.YtlbjjbolbopfmaaGreatDoor
