import Derived.Test.YtlbjjbolbopfmaaGreatDoorI24
import Derived.Test.YtlbjjbolbopfmaaGreatDoorI20
import Derived.Test.YtlbjjbolbopfmaaGreatDoorI19
import Derived.Test.YtlbjjbolbopfmaaGreatDoorI09
namespace Go.Proofs.YtlbjjbolbopfmaaGreatDoor
set_option maxHeartbeats 8000000
set_option maxRecDepth 1000000
set_option linter.unusedVariables false
section
open Go.RowKit
structure Two (g : Nat) (w : World) (x0 x1 x2 x3 x4 y0 y1 y2 y3 y4 : Value) : Prop where
 x0 : w.cell? ⟨g, 0, none⟩ = some x0
 x1 : w.cell? ⟨g, 1, none⟩ = some x1
 x2 : w.cell? ⟨g, 2, none⟩ = some x2
 x3 : w.cell? ⟨g, 3, none⟩ = some x3
 x4 : w.cell? ⟨g, 4, none⟩ = some x4
 y0 : w.cell? ⟨g + 1, 0, none⟩ = some y0
 y1 : w.cell? ⟨g + 1, 1, none⟩ = some y1
 y2 : w.cell? ⟨g + 1, 2, none⟩ = some y2
 y3 : w.cell? ⟨g + 1, 3, none⟩ = some y3
 y4 : w.cell? ⟨g + 1, 4, none⟩ = some y4
 fx : ∀ o, w.frozen? ⟨g, o, none⟩ = false
theorem Two.drewN {g : Nat} {w : World} {x0 x1 x2 x3 x4 y0 y1 y2 y3 y4 : Value} (h : Two g w x0 x1 x2 x3 x4 y0 y1 y2 y3 y4) (n : Nat) : Two g (w.drewN n) x0 x1 x2 x3 x4 y0 y1 y2 y3 y4 := ⟨h.x0, h.x1, h.x2, h.x3, h.x4, h.y0, h.y1, h.y2, h.y3, h.y4, h.fx⟩
theorem Two.new (w : World) (x0 x1 x2 x3 x4 y0 y1 y2 y3 y4 : Value) (t t' : TypeId) : Two w.heap.size ((w.alloc (.cells #[x0, x1, x2, x3, x4] t)).alloc (.cells #[y0, y1, y2, y3, y4] t')) x0 x1 x2 x3 x4 y0 y1 y2 y3 y4 := by
 constructor <;> simp [go_sem]
theorem z_g3 {w w1 : World} {ao : Option Addr} {ss : List ByteArray} (h : StrsAt 0 w.heap.size w1 ao ss) (hw : w.heap.size ≤ w1.heap.size) (v0 v1 v2 v3 v4 : Value) : StrsAt 0 (((((w1.setCell ⟨w.heap.size, 0, none⟩ v0).setCell ⟨w.heap.size, 1, none⟩ v1).setCell ⟨w.heap.size, 2, none⟩ v2).setCell ⟨w.heap.size, 3, none⟩ v3).setCell ⟨w.heap.size, 4, none⟩ v4).heap.size (((((w1.setCell ⟨w.heap.size, 0, none⟩ v0).setCell ⟨w.heap.size, 1, none⟩ v1).setCell ⟨w.heap.size, 2, none⟩ v2).setCell ⟨w.heap.size, 3, none⟩ v3).setCell ⟨w.heap.size, 4, none⟩ v4) ao ss :=
 (((((h.setCell (p := ⟨w.heap.size, 0, none⟩) (.inr (Nat.le_refl _)) v0).setCell (p := ⟨w.heap.size, 1, none⟩) (.inr (Nat.le_refl _)) v1).setCell (p := ⟨w.heap.size, 2, none⟩) (.inr (Nat.le_refl _)) v2).setCell (p := ⟨w.heap.size, 3, none⟩) (.inr (Nat.le_refl _)) v3).setCell (p := ⟨w.heap.size, 4, none⟩) (.inr (Nat.le_refl _)) v4).mono (Nat.le_refl _) (by simpa [World.setCell] using hw)
theorem z_l3 (ao : Option Addr) (cap n : Nat) (ss : List ByteArray) (s : ByteArray) (B : Nat) (w : World) (hn : n = ss.length) (hl : ss.length ≤ 9223372036854775807) (hi : StrsAt 0 B w ao ss) :
  Calls Tryz.prog 141 #[.slice ao n cap, .string s] w fun e w' => e = .returned (.bool (hasB ss s)) ∧ w' = w := by
 subst hn; exact z_aF ao cap ss s B w hl hi
theorem z_gD {a : ByteArray} {zs : List ByteArray} (h : ¬ (zs.length ≤ 3 ∧ allB z_ac (a :: zs) = true ∧ z_cB zs zs.length = false)) : z_af ((1 : Nat) : Int) (a :: zs) = none := by
 show pHead (a :: zs) = none
 rw [pHead]; exact if_neg h
theorem z_fc (ao : Option Addr) (c : Nat) (ws : List ByteArray) (w : World) (h4 : ws.length < 1 ∨ 4 < ws.length) (hl : ws.length ≤ 4398046511000) :
  Calls Tryz.prog 171 #[.int .i64 (1 : Nat), .slice ao ws.length c] w (z_bg w (1 : Nat) ws) := by
 have HN : Hid (z_af ((1 : Nat) : Int) ws = none) := by
  match ws, h4 with
  | [], _ => rfl
  | a :: zs, h => exact z_gD (fun h2 => by have := h2.1; simp at h; omega)
 rcases h4 with h4 | h4
 ·have q1 : (ws.length : Int) < 1 := by omega
  clear h4
  go_enter Tryz.func171, Tryz.ntmps171
  go_wp2
  refine bodyPost_ret (v := .tuple #[.agg #[.int .i64 _, .string ⟨#[]⟩, .string ⟨#[]⟩, .slice none 0 0, .string ⟨#[]⟩], .bool false]) (by simp [results, Tryz.results171, go_sem]; rfl) rfl ?_
  exact z_aH (args := []) (z_ab _ _ _) (Nat.le_refl _) (StrsAt.nil _ _ _ _) HN.out (Nat.zero_le _)
 ·have q1 : ¬ (ws.length : Int) < 1 := by omega
  have q4 : (4 : Int) < ws.length := by omega
  clear h4
  go_enter Tryz.func171, Tryz.ntmps171
  go_wp2
  refine bodyPost_ret (v := .tuple #[.agg #[.int .i64 _, .string ⟨#[]⟩, .string ⟨#[]⟩, .slice none 0 0, .string ⟨#[]⟩], .bool false]) (by simp [results, Tryz.results171, go_sem]; rfl) rfl ?_
  exact z_aH (args := []) (z_ab _ _ _) (Nat.le_refl _) (StrsAt.nil _ _ _ _) HN.out (Nat.zero_le _)
theorem z_gy (g off c : Nat) (a : ByteArray) (zs : List ByteArray) (w : World) (h4 : zs.length ≤ 3) (hz : ∀ s ∈ a :: zs, s.size ≤ 4398046511104) (hi : StrsAt 0 w.heap.size w (some ⟨g, off, none⟩) (a :: zs)) (ha : z_ac a = false) :
  Calls Tryz.prog 171 #[.int .i64 (1 : Nat), .slice (some ⟨g, off, none⟩) (zs.length + 1) c] w (z_bg w (1 : Nat) (a :: zs)) := by
 have HN : Hid (z_af ((1 : Nat) : Int) (a :: zs) = none) := z_gD (fun h => by have := h.2.1; rw [z_c7, ha] at this; exact Bool.noConfusion this)
 have q1 : ¬ (zs.length : Int) + 1 < 1 := by omega
 have q4 : ¬ (4 : Int) < zs.length + 1 := by omega
 have za := hz a (by simp)
 obtain ⟨_, _, e0, hB, k0⟩ := hi.at 0 (by simp)
 cases e0
 have c0 : w.cell? ⟨g, off, none⟩ = some (.string a) := k0
 have hb0 : g < w.heap.size := hB.2
 clear hi hz k0
 go_enter Tryz.func171, Tryz.ntmps171
 go_wp2_with (go_at_call 140; refine (z_a a _ (by omega)).mono ?_; rintro e wx ⟨rfl, rfl⟩; rw [ha])
 refine bodyPost_ret (v := .tuple #[.agg #[.int .i64 _, .string ⟨#[]⟩, .string ⟨#[]⟩, .slice none 0 0, .string ⟨#[]⟩], .bool false]) (by simp [results, Tryz.results171, go_sem]; rfl) rfl ?_
 exact z_aH (args := []) (z_ab _ _ _) (Nat.le_refl _) (StrsAt.nil _ _ _ _) HN.out (Nat.zero_le _)
theorem z_ew (g off c : Nat) (a : ByteArray) (zs : List ByteArray) (w : World) (h4 : zs.length ≤ 3) (hc : zs.length + 1 ≤ c) (hc1 : ¬ c = 1) (hz : ∀ s ∈ a :: zs, s.size ≤ 4398046511104) (hi : StrsAt 0 w.heap.size w (some ⟨g, off, none⟩) (a :: zs)) (ha : z_ac a = true) :
  Calls Tryz.prog 171 #[.int .i64 (1 : Nat), .slice (some ⟨g, off, none⟩) (zs.length + 1) c] w (z_bg w (1 : Nat) (a :: zs)) := by
 have HNo : Hid (∀ k, k < zs.length → ((∃ h : k < zs.length, z_ac zs[k] = false) ∨ (∃ h : k < zs.length, hasB (zs.take k) zs[k] = true)) → z_af ((1 : Nat) : Int) (a :: zs) = none) := by
  intro k hk hh
  refine z_gD fun h => ?_
  rcases hh with ⟨h1, hh⟩ | ⟨h1, hh⟩
  ·have := z_fG z_ac zs k h1 hh
   have h2 := h.2.1
   rw [z_c7, this, Bool.and_false] at h2
   exact Bool.noConfusion h2
  ·rw [z_eP zs k zs.length h1 h1 hh] at h
   exact Bool.noConfusion h.2.2
 have HYes : Hid (allB z_ac zs = true → z_cB zs zs.length = false → z_af ((1 : Nat) : Int) (a :: zs) = some ⟨eS, a, zs, eS⟩) := fun h1 h2 => by
  show pHead (a :: zs) = _
  rw [pHead]; exact if_pos ⟨h4, by rw [z_c7, ha, h1]; rfl, h2⟩
 have q1 : ¬ (zs.length : Int) + 1 < 1 := by omega
 have q4 : ¬ (4 : Int) < zs.length + 1 := by omega
 have za := hz a (by simp)
 have HZ : Hid (∀ s ∈ a :: zs, s.size ≤ 4398046511104) := hz
 have HI : Hid (StrsAt 0 w.heap.size w (some ⟨g, off, none⟩) (a :: zs)) := hi
 have HD : Hid (StrsAt 0 w.heap.size w (some ⟨g, off + 1, none⟩) zs) := hi.drop 1
 obtain ⟨_, _, e0, hB, k0⟩ := hi.at 0 (by simp)
 cases e0
 have c0 : w.cell? ⟨g, off, none⟩ = some (.string a) := k0
 have hb0 : g < w.heap.size := hB.2
 clear hi hz k0
 go_enter Tryz.func171, Tryz.ntmps171
 go_wp2_with (go_at_call 140; refine (z_a a _ (by omega)).mono ?_; rintro e wx ⟨rfl, rfl⟩; rw [ha])
 go_loopw [8] (fun i wr => ∃ k : Nat, k ≤ zs.length ∧ i = .int .i64 (k + 1 : Nat) ∧ Hid (allB z_ac (zs.take k) = true) ∧ Hid (z_cB zs k = false) ∧ Hid (Below w.heap.size w wr) ∧ Hid (Two w.heap.size wr (.int .i64 0) (.string ⟨#[]⟩) (.string ⟨#[]⟩) (.slice none 0 0) (.string ⟨#[]⟩) (.int .i64 1) (.string ⟨#[]⟩) (.string a) (.slice (some ⟨g, off + 1, none⟩) zs.length (c - 1)) (.string ⟨#[]⟩))) (fun i _ => zs.length + 1 - (intOf i).toNat)
 case atStart => exact ⟨0, Nat.zero_le _, rfl, by simp [Hid, allB], by simp [Hid, z_cB], z_ab _ _ _, Two.new _ _ _ _ _ _ _ _ _ _ _ _ _⟩
 case round =>
  obtain ⟨k, hk, rfl, HA, HR, HB, HTw⟩ := hrel
  have hws := HB.out.size
  by_cases hlt : k < zs.length
  ·have ck : wr.cell? ⟨g, off + (k + 1), none⟩ = some (.string zs[k]) := by
    obtain ⟨_, _, e1, _, hc1⟩ := (HI.out.below HB.out).at (k + 1) (by simp; omega)
    cases e1
    simpa using hc1
   have zk := HZ.out zs[k] (by simp)
   have HT : Hid (StrsAt 0 w.heap.size w (some ⟨g, off + 1, none⟩) (zs.take k)) := HD.out.take k
   have HK : Hid (k = (zs.take k).length) := by show _ = _; simp; omega
   have HK2 : Hid ((zs.take k).length ≤ 9223372036854775807) := by show _ ≤ _; simp; omega
   obtain ⟨x, hx⟩ : ∃ x, x = zs[k] := ⟨_, rfl⟩
   rw [← hx] at ck zk
   have p1 : (k : Int) + 1 < zs.length + 1 := by omega
   have p2 : (0 : Int) ≤ (k : Int) + 1 := by omega
   cases hn : z_ac x with
   | false =>
    have HN : Hid (z_af ((1 : Nat) : Int) (a :: zs) = none) := HNo.out k hlt (.inl ⟨hlt, by rw [← hx]; exact hn⟩)
    have CN : Hid (∀ W : World, Calls Tryz.prog 140 #[.string x] W fun e w' => e = .returned (.bool false) ∧ w' = W) := fun W => by
     have h := z_a x W (by omega)
     rw [hn] at h; exact h
    clear hx
    go_wp2_with fail
    go_quiet ((go_at_call 140; exact Calls.quiet_of_same (CN.out _)))
    obtain ⟨x0, x1, x2, x3, x4, y0, y1, y2, y3, y4, fx⟩ := HTw.out
    obtain ⟨X0, X1, X2, X3, X4, Y0, Y1, Y2, Y3, Y4, FX⟩ := HTw.out.drewN nq
    go_wp2
    refine bodyPost_ret (v := .tuple #[.agg #[.int .i64 _, .string ⟨#[]⟩, .string a, .slice (some ⟨g, off + 1, none⟩) zs.length (c - 1), .string ⟨#[]⟩], .bool false]) (by simp [results, Tryz.results171, go_sem, X0, X1, X2, X3, X4]; rfl) rfl ?_
    exact z_aH (args := zs) (z_az (HB.out.trans (z_aa (Below.refl _ _) nq)) _ _ _ _ _) (by omega) (z_g3 (HD.out.below (HB.out.trans (z_aa (Below.refl _ _) nq))) hws _ _ _ _ _) HN.out (by simp)
   | true =>
    have CN : Hid (∀ W : World, Calls Tryz.prog 140 #[.string x] W fun e w' => e = .returned (.bool true) ∧ w' = W) := fun W => by
     have h := z_a x W (by omega)
     rw [hn] at h; exact h
    cases hh : hasB (zs.take k) x with
    | true =>
     have HN : Hid (z_af ((1 : Nat) : Int) (a :: zs) = none) := HNo.out k hlt (.inr ⟨hlt, by rw [← hx]; exact hh⟩)
     have CH : Hid (∀ n : Nat, Calls Tryz.prog 141 #[.slice (some ⟨g, off + 1, none⟩) k (c - 1), .string x] (wr.drewN n) fun e w' => e = .returned (.bool true) ∧ w' = wr.drewN n) := fun n => by
      have h := z_l3 (some ⟨g, off + 1, none⟩) (c - 1) k (zs.take k) x w.heap.size (wr.drewN n) HK.out HK2.out ((HT.out.below HB.out).below (z_aa (Below.refl _ _) n))
      rw [hh] at h; exact h
     clear hx
     go_wp2_with fail
     go_quiet ((first | (go_at_call 140; exact Calls.quiet_of_same (CN.out _)) | (go_at_call 141; exact Calls.quiet_of_same (CH.out _))))
     obtain ⟨x0, x1, x2, x3, x4, y0, y1, y2, y3, y4, fx⟩ := HTw.out
     obtain ⟨X0, X1, X2, X3, X4, Y0, Y1, Y2, Y3, Y4, FX⟩ := HTw.out.drewN nq
     go_wp2
     refine bodyPost_ret (v := .tuple #[.agg #[.int .i64 _, .string ⟨#[]⟩, .string a, .slice (some ⟨g, off + 1, none⟩) zs.length (c - 1), .string ⟨#[]⟩], .bool false]) (by simp [results, Tryz.results171, go_sem, X0, X1, X2, X3, X4]; rfl) rfl ?_
     exact z_aH (args := zs) (z_az (HB.out.trans (z_aa (Below.refl _ _) nq)) _ _ _ _ _) (by omega) (z_g3 (HD.out.below (HB.out.trans (z_aa (Below.refl _ _) nq))) hws _ _ _ _ _) HN.out (by simp)
    | false =>
     have HA2 : Hid (allB z_ac (zs.take (k + 1)) = true) := by show _ = _; rw [z_c1 _ _ _ hlt, HA.out, ← hx, hn]; rfl
     have HR2 : Hid (z_cB zs (k + 1) = false) := by show _ = _; rw [z_f1 _ _ hlt, HR.out, ← hx, hh]; rfl
     have CH : Hid (∀ n : Nat, Calls Tryz.prog 141 #[.slice (some ⟨g, off + 1, none⟩) k (c - 1), .string x] (wr.drewN n) fun e w' => e = .returned (.bool false) ∧ w' = wr.drewN n) := fun n => by
      have h := z_l3 (some ⟨g, off + 1, none⟩) (c - 1) k (zs.take k) x w.heap.size (wr.drewN n) HK.out HK2.out ((HT.out.below HB.out).below (z_aa (Below.refl _ _) n))
      rw [hh] at h; exact h
     clear hx
     go_wp2_with fail
     go_quiet ((first | (go_at_call 140; exact Calls.quiet_of_same (CN.out _)) | (go_at_call 141; exact Calls.quiet_of_same (CH.out _))))
     go_wp2_with fail
     go_roundw
     case rel => exact ⟨k + 1, by omega, by go_num, HA2, HR2, HB.out.trans (z_aa (Below.refl _ _) nq), HTw.out.drewN nq⟩
     case measure => simp [intOf]; omega
  ·have HN : Hid (z_af ((1 : Nat) : Int) (a :: zs) = some ⟨eS, a, zs, eS⟩) := by
    have e : k = zs.length := by omega
    refine HYes.out ?_ (by rw [← e]; exact HR.out)
    have := HA.out
    rw [e, List.take_length] at this; exact this
   obtain ⟨x0, x1, x2, x3, x4, y0, y1, y2, y3, y4, fx⟩ := HTw.out
   go_wp2
   refine bodyPost_ret (v := .tuple #[.agg #[.int .i64 _, .string ⟨#[]⟩, .string a, .slice (some ⟨g, off + 1, none⟩) zs.length (c - 1), .string ⟨#[]⟩], .bool true]) (by simp [results, Tryz.results171, go_sem, x0, x1, x2, x3, x4]; rfl) rfl ?_
   exact z_bH (args := zs) (z_az HB.out _ _ _ _ _) (by omega) (z_g3 (HD.out.below HB.out) hws _ _ _ _ _) HN.out (by simp)
theorem z_fv (g off : Nat) (a : ByteArray) (w : World) (hz : ∀ s ∈ [a], s.size ≤ 4398046511104) (hi : StrsAt 0 w.heap.size w (some ⟨g, off, none⟩) [a]) (ha : z_ac a = true) :
  Calls Tryz.prog 171 #[.int .i64 (1 : Nat), .slice (some ⟨g, off, none⟩) 1 1] w (z_bg w (1 : Nat) [a]) := by
 have HN : Hid (z_af ((1 : Nat) : Int) [a] = some ⟨eS, a, [], eS⟩) := by
  show pHead [a] = _
  rw [pHead]; exact if_pos ⟨by decide, by rw [z_c7, ha]; rfl, rfl⟩
 have za := hz a (by simp)
 obtain ⟨_, _, e0, hB, k0⟩ := hi.at 0 (by simp)
 cases e0
 have c0 : w.cell? ⟨g, off, none⟩ = some (.string a) := k0
 have hb0 : g < w.heap.size := hB.2
 clear hi hz k0
 go_enter Tryz.func171, Tryz.ntmps171
 go_wp2_with (go_at_call 140; refine (z_a a _ (by omega)).mono ?_; rintro e wx ⟨rfl, rfl⟩; rw [ha])
 go_loop [8] (fun i => i = .int .i64 1) (fun _ => 0)
 case atStart => rfl
 case round =>
  subst hrel
  go_wp2
  refine bodyPost_ret (v := .tuple #[.agg #[.int .i64 _, .string ⟨#[]⟩, .string a, .slice (some ⟨g, off, none⟩) 0 0, .string ⟨#[]⟩], .bool true]) (by simp [results, Tryz.results171, go_sem]; rfl) rfl ?_
  exact z_bH (args := []) (z_ab _ _ _) (Nat.le_refl _) (StrsAt.nil _ _ _ _) HN.out (Nat.zero_le _)
theorem z_i8 (ao : Option Addr) (c : Nat) (ws : List ByteArray) (w : World) (hl : ws.length ≤ 4398046511000) (hc : ws.length ≤ c) (hz : ∀ s ∈ ws, s.size ≤ 4398046511104) (hi : StrsAt 0 w.heap.size w ao ws) :
  Calls Tryz.prog 171 #[.int .i64 (1 : Nat), .slice ao ws.length c] w (z_bg w (1 : Nat) ws) := by
 by_cases h4 : ws.length < 1 ∨ 4 < ws.length
 ·exact z_fc ao c ws w h4 hl
 match ws, h4, hl, hc, hz, hi with
 | [], h4, _, _, _, _ => exact absurd (.inl (by simp)) h4
 | a :: zs, h4, hl, hc, hz, hi =>
  obtain ⟨g, off, rfl, _⟩ := hi.at 0 (by simp)
  have h3 : zs.length ≤ 3 := by
   have : ¬ 4 < (a :: zs).length := fun h => h4 (.inr h)
   simp at this; omega
  rw [List.length_cons] at hc ⊢
  cases ha : z_ac a with
  | false => exact z_gy g off c a zs w h3 hz hi ha
  | true =>
   by_cases hc1 : c = 1
   ·have e0 : zs = [] := List.length_eq_zero_iff.1 (by omega)
    subst e0
    subst hc1
    exact z_fv g off a w hz hi ha
   ·exact z_ew g off c a zs w h3 hc hc1 hz hi ha
end
section
open Go.RowKit
def stC (s : Stp) (u : Value) : List Value := [.int .i64 s.code, .string s.to, .string s.name, u, .string s.undo, .int .i64 s.a, .int .i64 s.b]
def stA (s : Stp) : List ByteArray := s.args
abbrev z_dq := OwnSt 52 7 stC stA
def StepAt (B : Nat) (w : World) (b o : Nat) (s : Stp) : Prop :=
 ∃ ao cap, s.args.length ≤ cap ∧ w.cell? ⟨b, o, none⟩ = some (.int .i64 s.code) ∧ w.cell? ⟨b, o + 1, none⟩ = some (.string s.to) ∧ w.cell? ⟨b, o + 2, none⟩ = some (.string s.name) ∧ w.cell? ⟨b, o + 3, none⟩ = some (.slice ao s.args.length cap) ∧ w.cell? ⟨b, o + 4, none⟩ = some (.string s.undo) ∧ w.cell? ⟨b, o + 5, none⟩ = some (.int .i64 s.a) ∧ w.cell? ⟨b, o + 6, none⟩ = some (.int .i64 s.b) ∧ StrsAt 0 B w ao s.args
def StepsAt (B : Nat) (w : World) (ao : Option Addr) (ss : List Stp) : Prop :=
 ∀ k (h : k < ss.length), ∃ b off, ao = some ⟨b, off, none⟩ ∧ b < B ∧ StepAt B w b (off + k * 7) ss[k]
section
variable {B B' : Nat} {w w' : World} {b o : Nat} {s : Stp} {ao : Option Addr} {ss : List Stp}
theorem StepAt.below (h : StepAt B w b o s) (hb : Below B w w') (hB : b < B) : StepAt B w' b o s := by
 obtain ⟨ao, cap, h0, h1, h2, h3, h4, h5, h6, h7, h8⟩ := h
 have hc := fun j => hb.cell (p := ⟨b, j, none⟩) hB
 exact ⟨ao, cap, h0, (hc _).trans h1, (hc _).trans h2, (hc _).trans h3, (hc _).trans h4, (hc _).trans h5, (hc _).trans h6, (hc _).trans h7, h8.below hb⟩
theorem StepAt.mono (h : StepAt B w b o s) (hB : B ≤ B') : StepAt B' w b o s := by
 obtain ⟨ao, cap, h0, h1, h2, h3, h4, h5, h6, h7, h8⟩ := h
 exact ⟨ao, cap, h0, h1, h2, h3, h4, h5, h6, h7, h8.mono (Nat.le_refl _) hB⟩
theorem StepsAt.below (h : StepsAt B w ao ss) (hb : Below B w w') : StepsAt B w' ao ss := by
 intro k hk
 obtain ⟨b, off, e, hB, hl⟩ := h k hk
 exact ⟨b, off, e, hB, hl.below hb hB⟩
theorem StepsAt.mono (h : StepsAt B w ao ss) (hB : B ≤ B') : StepsAt B' w ao ss := by
 intro k hk
 obtain ⟨b, off, e, hb, hl⟩ := h k hk
 exact ⟨b, off, e, Nat.lt_of_lt_of_le hb hB, hl.mono hB⟩
theorem StepsAt.later (h : StepsAt w.heap.size w ao ss) (hb : Below w.heap.size w w') : StepsAt w'.heap.size w' ao ss := (h.below hb).mono hb.size
theorem OwnSt.steps {base : Nat} {v : Value} {ps : List (Stp × Value)} (h : z_dq base w v ps) : ∃ ao cap, v = .slice ao ps.length cap ∧ ps.length ≤ cap ∧ StepsAt w.heap.size w ao (ps.map (·.1)) := by
 obtain ⟨ao, cap, rfl, hc⟩ := z_aq h.row
 refine ⟨ao, cap, rfl, hc, fun k hk => ?_⟩
 have hk' : k < ps.length := by simpa using hk
 rcases h.row.2 with ⟨_, h0⟩ | ⟨g, cap', cur, e, hb, hg, _⟩
 ·omega
 ·simp only [Value.slice.injEq] at e
  obtain ⟨rfl, _, rfl⟩ := e
  have hargs := h.args _ (List.getElem_mem hk')
  obtain ⟨bo, bc, e2, hbc, hs⟩ := StrsAt.of_owns hargs
  have hcell := fun j hj u hu => h.cell (fun _ _ => rfl) rfl k j hk' hj u hu
  refine ⟨g, 0, rfl, (h.row.lt g rfl).2, bo, bc, ?_, ?_, ?_, ?_, ?_, ?_, ?_, ?_, ?_⟩
  ·simpa [stA] using hbc
  ·rw [Nat.zero_add]; simpa using hcell 0 (by decide) _ rfl
  ·rw [Nat.zero_add]; simpa using hcell 1 (by decide) _ rfl
  ·rw [Nat.zero_add]; simpa using hcell 2 (by decide) _ rfl
  ·rw [Nat.zero_add]; have := hcell 3 (by decide) _ rfl; rw [this]; simp only [List.getElem_map]; exact congrArg some e2
  ·rw [Nat.zero_add]; simpa using hcell 4 (by decide) _ rfl
  ·rw [Nat.zero_add]; simpa using hcell 5 (by decide) _ rfl
  ·rw [Nat.zero_add]; simpa using hcell 6 (by decide) _ rfl
  ·rw [List.getElem_map]; exact hs.mono (Nat.zero_le _) (Nat.le_refl _)
end
end
section
open Go.RowKit
set_option linter.unusedVariables false
end
section
open Go.RowKit
set_option linter.unusedVariables false
end
section
open Go.RowKit
section
variable {α : Type} (mk : Nat → α → α) (cnt : α → Nat)
end
end
section
open Go.RowKit
theorem z_hM (ao : Option Addr) (cap : Nat) (ss : List ByteArray) (w : World) (hl : ss.length ≤ 4398046511104) (hi : StrsAt 0 w.heap.size w ao ss) :
  Calls Tryz.prog 88 #[.slice ao ss.length cap] w fun e w' => ∃ v, e = .returned v ∧ Below w.heap.size w w' ∧ w'.ownsRow w.heap.size 9 1 v ss.length (strCells ss) := by
 obtain ⟨i0, hi0, hz0, hz1, hz2⟩ := info_parts Tryz.infoStr
 by_cases h0 : 0 < ss.length
 ·obtain ⟨b, off, rfl, hB, _⟩ := hi 0 h0
  have hcells : ∀ j u, (strCells ss)[j]? = some u → w.cell? ((⟨b, off, none⟩ : Addr).add j) = some u := z_b6 hi
  clear hi
  go_enter Tryz.func88, Tryz.ntmps88
  go_wp2_with (at_builtin; refine wpList_append_own _ rfl _ _ 45 rfl w.heap.size 9 i0 (.string ByteArray.empty) 1 16 Tryz.underlying45 hi0 hz0 hz1 hz2 rfl (by decide) _ _ _ rfl (World.ownsRow_nil _ _ _ _) ⟨b, off, none⟩ ss.length _ (strCells ss) rfl (by simp [strCells]) hcells (by intro u hu; simp [strCells] at hu; obtain ⟨a, _, rfl⟩ := hu; rfl) (by unfold maxLen; omega) (by omega) (Nat.le_refl _) ?_; intro v' w1 hown hgrow _)
  go_ret
  rw [Nat.zero_add, List.nil_append] at hown
  exact ⟨v', rfl, (Below.refl _ _).grown hgrow (Nat.le_refl _) (by intro k hk; cases hk), hown⟩
 ·have e : ss = [] := List.length_eq_zero_iff.1 (by omega)
  subst e
  cases ao with
  | none =>
   go_enter Tryz.func88, Tryz.ntmps88
   go_wp2
   go_ret
   exact ⟨_, rfl, Below.refl _ _, World.ownsRow_nil _ _ _ _⟩
  | some ad =>
   go_enter Tryz.func88, Tryz.ntmps88
   go_wp2_with (at_builtin; refine wpList_append_own _ rfl _ _ 45 rfl w.heap.size 9 i0 (.string ByteArray.empty) 1 16 Tryz.underlying45 hi0 hz0 hz1 hz2 rfl (by decide) _ _ _ rfl (World.ownsRow_nil _ _ _ _) ad 0 _ [] rfl rfl (by intro j u hj; simp at hj) (by intro u hu; simp at hu) (by unfold maxLen; omega) (by omega) (Nat.le_refl _) ?_; intro v' w1 hown hgrow _)
   go_ret
   exact ⟨v', rfl, (Below.refl _ _).grown hgrow (Nat.le_refl _) (by intro k hk; cases hk), hown⟩
theorem z_k3 (k : Int) (w : World) : Calls Tryz.prog 148 #[.int .i64 k] w fun e w' => e = .returned (.int .i64 (z_cg k)) ∧ w' = w := by
 by_cases h2 : k = 2
 ·subst h2; go_enter Tryz.func148, Tryz.ntmps148; go_wp2; go_ret; exact ⟨rfl, rfl⟩
 by_cases h3 : k = 3
 ·subst h3; go_enter Tryz.func148, Tryz.ntmps148; go_wp2; go_ret; exact ⟨rfl, rfl⟩
 by_cases h4 : k = 4
 ·subst h4; go_enter Tryz.func148, Tryz.ntmps148; go_wp2; go_ret; exact ⟨rfl, rfl⟩
 by_cases h5 : k = 5
 ·subst h5; go_enter Tryz.func148, Tryz.ntmps148; go_wp2; go_ret; exact ⟨rfl, rfl⟩
 by_cases h6 : k = 6
 ·subst h6; go_enter Tryz.func148, Tryz.ntmps148; go_wp2; go_ret; exact ⟨rfl, rfl⟩
 by_cases h8 : k = 8
 ·subst h8; go_enter Tryz.func148, Tryz.ntmps148; go_wp2; go_ret; exact ⟨rfl, rfl⟩
 by_cases h14 : k = 14
 ·subst h14; go_enter Tryz.func148, Tryz.ntmps148; go_wp2; go_ret; exact ⟨rfl, rfl⟩
 by_cases h9 : k = 9
 ·subst h9; go_enter Tryz.func148, Tryz.ntmps148; go_wp2; go_ret; exact ⟨rfl, rfl⟩
 by_cases h12 : k = 12
 ·subst h12; go_enter Tryz.func148, Tryz.ntmps148; go_wp2; go_ret; exact ⟨rfl, rfl⟩
 by_cases h13 : k = 13
 ·subst h13; go_enter Tryz.func148, Tryz.ntmps148; go_wp2; go_ret; exact ⟨rfl, rfl⟩
 by_cases h15 : k = 15
 ·subst h15; go_enter Tryz.func148, Tryz.ntmps148; go_wp2; go_ret; exact ⟨rfl, rfl⟩
 have HN : Hid (z_cg k = 0) := by simp [Hid, z_cg, h2, h3, h4, h5, h6, h8, h14, h9, h12, h13, h15]
 have b2 : (k == 2) = false := beq_eq_false_iff_ne.2 h2
 have b3 : (k == 3) = false := beq_eq_false_iff_ne.2 h3
 have b4 : (k == 4) = false := beq_eq_false_iff_ne.2 h4
 have b5 : (k == 5) = false := beq_eq_false_iff_ne.2 h5
 have b6 : (k == 6) = false := beq_eq_false_iff_ne.2 h6
 have b8 : (k == 8) = false := beq_eq_false_iff_ne.2 h8
 have b14 : (k == 14) = false := beq_eq_false_iff_ne.2 h14
 have b9 : (k == 9) = false := beq_eq_false_iff_ne.2 h9
 have b12 : (k == 12) = false := beq_eq_false_iff_ne.2 h12
 have b13 : (k == 13) = false := beq_eq_false_iff_ne.2 h13
 have b15 : (k == 15) = false := beq_eq_false_iff_ne.2 h15
 clear h2 h3 h4 h5 h6 h8 h14 h9 h12 h13 h15
 go_enter Tryz.func148, Tryz.ntmps148
 go_wp2
 go_ret
 exact ⟨by rw [HN.out] <;> rfl, rfl⟩
end
section
open Go.RowKit
def stF' (p : Stp × Value) : List Value := stC p.1 p.2
theorem z_gH (p : Stp × Value) : (stF' p).length = 7 := rfl
structure MkSt (q base : Nat) (lo : Option Addr) (cap : Nat) (ls : List Ln) (w : World) (at_ : Nat) (v : Value) (ps : List (Stp × Value)) : Prop where
 obj : w.heap[q]? = some (.cells #[v, .slice lo ls.length cap, .int .i64 at_] 67 (0, 0))
 own : z_dq base w v ps
 lines : LinesAt q w lo ls
 qb : q < base
 bw : base ≤ w.heap.size
section
variable {q base : Nat} {lo : Option Addr} {cap : Nat} {ls : List Ln} {w w' : World} {at_ : Nat} {v v' : Value} {ps : List (Stp × Value)}
theorem MkSt.lt (h : MkSt q base lo cap ls w at_ v ps) : q < w.heap.size := (Array.getElem?_eq_some_iff.1 h.obj).1
theorem MkSt.c0 (h : MkSt q base lo cap ls w at_ v ps) : w.cell? ⟨q, 0, none⟩ = some v := by rw [cell_of_row _ _ 0 _ _ _ h.obj]; rfl
theorem MkSt.c1 (h : MkSt q base lo cap ls w at_ v ps) : w.cell? ⟨q, 1, none⟩ = some (.slice lo ls.length cap) := by rw [cell_of_row _ _ 1 _ _ _ h.obj]; rfl
theorem MkSt.c2 (h : MkSt q base lo cap ls w at_ v ps) : w.cell? ⟨q, 2, none⟩ = some (.int .i64 at_) := by rw [cell_of_row _ _ 2 _ _ _ h.obj]; rfl
theorem MkSt.fz (h : MkSt q base lo cap ls w at_ v ps) (j : Nat) : w.frozen? ⟨q, j, none⟩ = false := frozen_of_row _ _ j _ _ h.obj
theorem MkSt.row_lt (h : MkSt q base lo cap ls w at_ v ps) {k : Nat} (hk : v.ownBlock = some k) : base ≤ k ∧ k < w.heap.size := h.own.row.lt k hk
theorem MkSt.row_ne (h : MkSt q base lo cap ls w at_ v ps) {p : Stp × Value} (hp : p ∈ ps) {k : Nat} (hk : p.2.ownBlock = some k) : v.ownBlock ≠ some k := fun e => z_cH h.own.row (h.own.args p hp) (by decide) k e hk
theorem MkSt.below (h : MkSt q base lo cap ls w at_ v ps) (hb : Below w.heap.size w w') : MkSt q base lo cap ls w' at_ v ps :=
 ⟨(hb.block q h.lt).trans h.obj, h.own.below hb, h.lines.below (hb.mono (Nat.le_of_lt h.lt)), h.qb, Nat.le_trans h.bw hb.size⟩
theorem Wk.lines (hk : Wk q v.ownBlock w w') (h : MkSt q base lo cap ls w at_ v ps) : Below q w w' :=
 hk.below q (Nat.le_refl _) (Nat.le_of_lt h.lt) fun k e => by have := (h.row_lt e).1; have := h.qb; omega
end
theorem z_j4 (q base : Nat) (lo : Option Addr) (cap : Nat) (ls : List Ln) (at_ : Nat) (v : Value) (ps : List (Stp × Value)) (w : World) (h : MkSt q base lo cap ls w at_ v ps) (hl : ps.length ≤ 1048576) :
  Calls Tryz.prog 106 #[.pointer (some ⟨q, 0, none⟩)] w fun e w' => e = .returned (.int .i64 ps.length) ∧ w' = w := by
 obtain ⟨vo, vc, rfl, _⟩ := z_aq h.own.row
 have c0 := h.c0
 clear h
 go_enter Tryz.func106, Tryz.ntmps106
 go_wp2
 go_ret
 exact ⟨rfl, rfl⟩
theorem z_lZ {q base : Nat} {lo : Option Addr} {cap : Nat} {ls : List Ln} {w : World} {at_ g vc i : Nat} {ps : List (Stp × Value)} (h : MkSt q base lo cap ls w at_ (.slice (some ⟨g, 0, none⟩) ps.length vc) ps) (hi : i < ps.length) (j : Nat) (hj : j < 7) (x : Value) (s : Stp) (hs : stC s ps[i].2 = (stC ps[i].1 ps[i].2).set j x) (ha : s.args = ps[i].1.args) :
  MkSt q base lo cap ls (w.setCell ⟨g, i * 7 + j, none⟩ x) at_ (.slice (some ⟨g, 0, none⟩) ps.length vc) (ps.set i (s, ps[i].2)) ∧ Wk q (Value.slice (some ⟨g, 0, none⟩) ps.length vc).ownBlock w (w.setCell ⟨g, i * 7 + j, none⟩ x) := by
 have hg := h.row_lt (k := g) rfl
 have hqb := h.qb
 have hgr : w.grownBy (w.setCell ⟨g, i * 7 + j, none⟩ x) (some g) := z_aj g _ _
 have hk : Wk q (Value.slice (some ⟨g, 0, none⟩) ps.length vc).ownBlock w (w.setCell ⟨g, i * 7 + j, none⟩ x) := Wk.of_grown hgr
 have hself : ps.set i ps[i] = ps := by
  apply List.ext_getElem (by simp)
  intro n h3 h4
  rw [List.getElem_set]
  split
  ·rename_i e; subst e; rfl
  ·rfl
 have hrow : w.ownsRow base 52 7 (.slice (some ⟨g, 0, none⟩) ps.length vc) ps.length ((ps.set i ps[i]).flatMap stF') := by
  rw [hself]; exact h.own.row
 have hrow2 := z_lB (q' := (s, ps[i].2)) z_gH hrow hi j hj x hs
 have hne : ps[i].2.ownBlock ≠ some g := fun e => h.row_ne (List.getElem_mem hi) e rfl
 refine ⟨⟨(hgr.block q h.lt (by simp; omega)).trans h.obj, h.own.step (by decide) hi (q := (s, ps[i].2)) rfl hrow2 ?_ (Inn.of_grown hgr fun k e => .inl e), h.lines.below (hk.lines h), hqb, Nat.le_trans h.bw hgr.size⟩, hk⟩
 have h2 := z_ad (j := i * 7 + j) (h.own.args _ (List.getElem_mem hi)) hne x
 show World.ownsRow _ _ _ _ _ _ _
 unfold stA at h2 ⊢
 rw [ha]; exact h2
def setA (s : Stp) (p : Int) : Stp := ⟨s.code, s.to, s.name, s.args, s.undo, p, s.b⟩
def setB (s : Stp) (p : Int) : Stp := ⟨s.code, s.to, s.name, s.args, s.undo, s.a, p⟩
theorem z_jl {base : Nat} {w : World} {v : Value} {ps : List (Stp × Value)} (h : z_dq base w v ps) {i : Nat} (hi : i < ps.length) : ∃ g vc, v = .slice (some ⟨g, 0, none⟩) ps.length vc ∧ ps.length ≤ vc := by
 rcases h.row.2 with ⟨_, h⟩ | ⟨g, vc, cur, rfl, _, _, hn, _⟩
 ·omega
 ·exact ⟨g, vc, rfl, hn⟩
theorem z_l9 (q base : Nat) (lo : Option Addr) (cap : Nat) (ls : List Ln) (at_ : Nat) (v : Value) (ps : List (Stp × Value)) (nb na i : Nat) (p : Int) (w : World) (h : MkSt q base lo cap ls w at_ v ps) (hl : ps.length ≤ 1048576) (hi : i < ps.length)
  (hb : w.cell? ⟨nb, 0, none⟩ = some (.pointer (some ⟨q, 0, none⟩))) (ha : w.cell? ⟨na, 0, none⟩ = some (.int .i64 i)) :
  Calls Tryz.prog 146 #[.int .i64 p, .pointer (some ⟨nb, 0, none⟩), .pointer (some ⟨na, 0, none⟩)] w fun e w' => e = .returned (.tuple #[]) ∧ MkSt q base lo cap ls w' at_ v (ps.set i (setA ps[i].1 p, ps[i].2)) ∧ Wk q v.ownBlock w w' := by
 obtain ⟨g, vc, rfl, hvc⟩ := z_jl h.own hi
 have HF : Hid (MkSt q base lo cap ls (w.setCell ⟨g, i * 7 + 5, none⟩ (.int .i64 p)) at_ (.slice (some ⟨g, 0, none⟩) ps.length vc) (ps.set i (setA ps[i].1 p, ps[i].2)) ∧ Wk q (Value.slice (some ⟨g, 0, none⟩) ps.length vc).ownBlock w (w.setCell ⟨g, i * 7 + 5, none⟩ (.int .i64 p))) := z_lZ h hi 5 (by decide) _ _ rfl rfl
 have c0 := h.c0
 have cx := h.own.cell (fun _ _ => rfl) rfl i 5 hi (by decide) _ rfl
 have fx := h.own.row.frozenAt
 clear h
 go_enter Tryz.func146, Tryz.ntmps146
 go_wp2_with fail
 go_region
 all_goals
  go_wp2
  go_end0
  exact ⟨rfl, HF.out.1.below (Below.refl _ _).drew, HF.out.2.trans (Wk.of_below (row := (Value.slice (some ⟨g, 0, none⟩) ps.length vc).ownBlock) (Below.refl _ _).drew) (.inl rfl)⟩
theorem z_lQ (q base : Nat) (lo : Option Addr) (cap : Nat) (ls : List Ln) (at_ : Nat) (v : Value) (ps : List (Stp × Value)) (nb na i : Nat) (p : Int) (w : World) (h : MkSt q base lo cap ls w at_ v ps) (hl : ps.length ≤ 1048576) (hi : i < ps.length)
  (hb : w.cell? ⟨nb, 0, none⟩ = some (.pointer (some ⟨q, 0, none⟩))) (ha : w.cell? ⟨na, 0, none⟩ = some (.int .i64 i)) :
  Calls Tryz.prog 147 #[.int .i64 p, .pointer (some ⟨nb, 0, none⟩), .pointer (some ⟨na, 0, none⟩)] w fun e w' => e = .returned (.tuple #[]) ∧ MkSt q base lo cap ls w' at_ v (ps.set i (setB ps[i].1 p, ps[i].2)) ∧ Wk q v.ownBlock w w' := by
 obtain ⟨g, vc, rfl, hvc⟩ := z_jl h.own hi
 have HF : Hid (MkSt q base lo cap ls (w.setCell ⟨g, i * 7 + 6, none⟩ (.int .i64 p)) at_ (.slice (some ⟨g, 0, none⟩) ps.length vc) (ps.set i (setB ps[i].1 p, ps[i].2)) ∧ Wk q (Value.slice (some ⟨g, 0, none⟩) ps.length vc).ownBlock w (w.setCell ⟨g, i * 7 + 6, none⟩ (.int .i64 p))) := z_lZ h hi 6 (by decide) _ _ rfl rfl
 have c0 := h.c0
 have cx := h.own.cell (fun _ _ => rfl) rfl i 6 hi (by decide) _ rfl
 have fx := h.own.row.frozenAt
 clear h
 go_enter Tryz.func147, Tryz.ntmps147
 go_wp2_with fail
 go_region
 all_goals
  go_wp2
  go_end0
  exact ⟨rfl, HF.out.1.below (Below.refl _ _).drew, HF.out.2.trans (Wk.of_below (row := (Value.slice (some ⟨g, 0, none⟩) ps.length vc).ownBlock) (Below.refl _ _).drew) (.inl rfl)⟩
end
end Go.Proofs.YtlbjjbolbopfmaaGreatDoor
