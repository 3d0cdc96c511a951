import Derived.Test.YtlbjjbolbopfmaaGreatDoorH26
import Derived.Test.YtlbjjbolbopfmaaGreatDoorH21
import Derived.Test.YtlbjjbolbopfmaaGreatDoorH20
import Derived.Test.YtlbjjbolbopfmaaGreatDoorH09
import Derived.Test.YtlbjjbolbopfmaaGreatDoorH22
import Derived.Test.YtlbjjbolbopfmaaGreatDoorH08
import Derived.Deep.RegionLaw
import Derived.Deep.AppendLies
import Derived.Deep.RegionHeld3
import Derived.Test.YtlbjjbolbopfmaaGreatDoorH00
import Derived.Test.YtlbjjbolbopfmaaGreatDoorH27
namespace Go.Proofs.YtlbjjbolbopfmaaGreatDoor
set_option maxHeartbeats 60000000
set_option maxRecDepth 1000000
set_option linter.unusedVariables false
section
open Go.RowKit
structure Two (g : Nat) (w : World) (x0 x1 x2 x3 x4 y0 y1 y2 y3 y4 : Value) : Prop where
 x0 : w.cell? ⟨g, 0, none⟩ = some x0
 x1 : w.cell? ⟨g, 1, none⟩ = some x1
 x2 : w.cell? ⟨g, 2, none⟩ = some x2
 x3 : w.cell? ⟨g, 3, none⟩ = some x3
 x4 : w.cell? ⟨g, 4, none⟩ = some x4
 y0 : w.cell? ⟨g + 1, 0, none⟩ = some y0
 y1 : w.cell? ⟨g + 1, 1, none⟩ = some y1
 y2 : w.cell? ⟨g + 1, 2, none⟩ = some y2
 y3 : w.cell? ⟨g + 1, 3, none⟩ = some y3
 y4 : w.cell? ⟨g + 1, 4, none⟩ = some y4
 fx : ∀ o, w.frozen? ⟨g, o, none⟩ = false
theorem Two.drewN {g : Nat} {w : World} {x0 x1 x2 x3 x4 y0 y1 y2 y3 y4 : Value} (h : Two g w x0 x1 x2 x3 x4 y0 y1 y2 y3 y4) (n : Nat) : Two g (w.drewN n) x0 x1 x2 x3 x4 y0 y1 y2 y3 y4 := ⟨h.x0, h.x1, h.x2, h.x3, h.x4, h.y0, h.y1, h.y2, h.y3, h.y4, h.fx⟩
theorem Two.new (w : World) (x0 x1 x2 x3 x4 y0 y1 y2 y3 y4 : Value) (t t' : TypeId) : Two w.heap.size ((w.alloc (.cells #[x0, x1, x2, x3, x4] t)).alloc (.cells #[y0, y1, y2, y3, y4] t')) x0 x1 x2 x3 x4 y0 y1 y2 y3 y4 := by
 constructor <;> simp [go_sem]
theorem strs_ret {w w1 : World} {ao : Option Addr} {ss : List ByteArray} (h : StrsAt 0 w.heap.size w1 ao ss) (hw : w.heap.size ≤ w1.heap.size) (v0 v1 v2 v3 v4 : Value) : StrsAt 0 (((((w1.setCell ⟨w.heap.size, 0, none⟩ v0).setCell ⟨w.heap.size, 1, none⟩ v1).setCell ⟨w.heap.size, 2, none⟩ v2).setCell ⟨w.heap.size, 3, none⟩ v3).setCell ⟨w.heap.size, 4, none⟩ v4).heap.size (((((w1.setCell ⟨w.heap.size, 0, none⟩ v0).setCell ⟨w.heap.size, 1, none⟩ v1).setCell ⟨w.heap.size, 2, none⟩ v2).setCell ⟨w.heap.size, 3, none⟩ v3).setCell ⟨w.heap.size, 4, none⟩ v4) ao ss :=
 (((((h.setCell (p := ⟨w.heap.size, 0, none⟩) (.inr (Nat.le_refl _)) v0).setCell (p := ⟨w.heap.size, 1, none⟩) (.inr (Nat.le_refl _)) v1).setCell (p := ⟨w.heap.size, 2, none⟩) (.inr (Nat.le_refl _)) v2).setCell (p := ⟨w.heap.size, 3, none⟩) (.inr (Nat.le_refl _)) v3).setCell (p := ⟨w.heap.size, 4, none⟩) (.inr (Nat.le_refl _)) v4).mono (Nat.le_refl _) (by simpa [World.setCell] using hw)
theorem l1Has_n (ao : Option Addr) (cap n : Nat) (ss : List ByteArray) (s : ByteArray) (B : Nat) (w : World) (hn : n = ss.length) (hl : ss.length ≤ 9223372036854775807) (hi : StrsAt 0 B w ao ss) :
  Calls Tryz.prog 141 #[.slice ao n cap, .string s] w fun e w' => e = .returned (.bool (hasB ss s)) ∧ w' = w := by
 subst hn; exact l1Has_any ao cap ss s B w hl hi
theorem pHead_no {a : ByteArray} {zs : List ByteArray} (h : ¬ (zs.length ≤ 3 ∧ allB nameB (a :: zs) = true ∧ repTo zs zs.length = false)) : readP ((1 : Nat) : Int) (a :: zs) = none := by
 show pHead (a :: zs) = none
 rw [pHead]; exact if_neg h
theorem l1Made_head_len (ao : Option Addr) (c : Nat) (ws : List ByteArray) (w : World) (h4 : ws.length < 1 ∨ 4 < ws.length) (hl : ws.length ≤ 4398046511000) :
  Calls Tryz.prog 171 #[.int .i64 (1 : Nat), .slice ao ws.length c] w (MadeE w (1 : Nat) ws) := by
 have HN : Hid (readP ((1 : Nat) : Int) ws = none) := by
  match ws, h4 with
  | [], _ => rfl
  | a :: zs, h => exact pHead_no (fun h2 => by have := h2.1; simp at h; omega)
 rcases h4 with h4 | h4
 ·have q1 : (ws.length : Int) < 1 := by omega
  clear h4
  go_enter Tryz.func171, Tryz.ntmps171
  go_wp2
  refine bodyPost_ret (v := .tuple #[.agg #[.int .i64 _, .string ⟨#[]⟩, .string ⟨#[]⟩, .slice none 0 0, .string ⟨#[]⟩], .bool false]) (by simp [results, Tryz.results171, go_sem]; rfl) rfl ?_
  exact made_no (args := []) (below_two _ _ _) (Nat.le_refl _) (StrsAt.nil _ _ _ _) HN.out (Nat.zero_le _)
 ·have q1 : ¬ (ws.length : Int) < 1 := by omega
  have q4 : (4 : Int) < ws.length := by omega
  clear h4
  go_enter Tryz.func171, Tryz.ntmps171
  go_wp2
  refine bodyPost_ret (v := .tuple #[.agg #[.int .i64 _, .string ⟨#[]⟩, .string ⟨#[]⟩, .slice none 0 0, .string ⟨#[]⟩], .bool false]) (by simp [results, Tryz.results171, go_sem]; rfl) rfl ?_
  exact made_no (args := []) (below_two _ _ _) (Nat.le_refl _) (StrsAt.nil _ _ _ _) HN.out (Nat.zero_le _)
theorem l1Made_head_a (g off c : Nat) (a : ByteArray) (zs : List ByteArray) (w : World) (h4 : zs.length ≤ 3) (hz : ∀ s ∈ a :: zs, s.size ≤ 4398046511104) (hi : StrsAt 0 w.heap.size w (some ⟨g, off, none⟩) (a :: zs)) (ha : nameB a = false) :
  Calls Tryz.prog 171 #[.int .i64 (1 : Nat), .slice (some ⟨g, off, none⟩) (zs.length + 1) c] w (MadeE w (1 : Nat) (a :: zs)) := by
 have HN : Hid (readP ((1 : Nat) : Int) (a :: zs) = none) := pHead_no (fun h => by have := h.2.1; rw [allB_cons, ha] at this; exact Bool.noConfusion this)
 have q1 : ¬ (zs.length : Int) + 1 < 1 := by omega
 have q4 : ¬ (4 : Int) < zs.length + 1 := by omega
 have za := hz a (by simp)
 obtain ⟨_, _, e0, hB, k0⟩ := hi.at 0 (by simp)
 cases e0
 have c0 : w.cell? ⟨g, off, none⟩ = some (.string a) := k0
 have hb0 : g < w.heap.size := hB.2
 clear hi hz k0
 go_enter Tryz.func171, Tryz.ntmps171
 go_wp2_with (go_at_call 140; refine (l1NameOk_any a _ (by omega)).mono ?_; rintro e wx ⟨rfl, rfl⟩; rw [ha])
 refine bodyPost_ret (v := .tuple #[.agg #[.int .i64 _, .string ⟨#[]⟩, .string ⟨#[]⟩, .slice none 0 0, .string ⟨#[]⟩], .bool false]) (by simp [results, Tryz.results171, go_sem]; rfl) rfl ?_
 exact made_no (args := []) (below_two _ _ _) (Nat.le_refl _) (StrsAt.nil _ _ _ _) HN.out (Nat.zero_le _)
theorem l1Made_head_loop (g off c : Nat) (a : ByteArray) (zs : List ByteArray) (w : World) (h4 : zs.length ≤ 3) (hc : zs.length + 1 ≤ c) (hc1 : ¬ c = 1) (hz : ∀ s ∈ a :: zs, s.size ≤ 4398046511104) (hi : StrsAt 0 w.heap.size w (some ⟨g, off, none⟩) (a :: zs)) (ha : nameB a = true) :
  Calls Tryz.prog 171 #[.int .i64 (1 : Nat), .slice (some ⟨g, off, none⟩) (zs.length + 1) c] w (MadeE w (1 : Nat) (a :: zs)) := by
 have HNo : Hid (∀ k, k < zs.length → ((∃ h : k < zs.length, nameB zs[k] = false) ∨ (∃ h : k < zs.length, hasB (zs.take k) zs[k] = true)) → readP ((1 : Nat) : Int) (a :: zs) = none) := by
  intro k hk hh
  refine pHead_no fun h => ?_
  rcases hh with ⟨h1, hh⟩ | ⟨h1, hh⟩
  ·have := allB_no nameB zs k h1 hh
   have h2 := h.2.1
   rw [allB_cons, this, Bool.and_false] at h2
   exact Bool.noConfusion h2
  ·rw [repTo_yes zs k zs.length h1 h1 hh] at h
   exact Bool.noConfusion h.2.2
 have HYes : Hid (allB nameB zs = true → repTo zs zs.length = false → readP ((1 : Nat) : Int) (a :: zs) = some ⟨eS, a, zs, eS⟩) := fun h1 h2 => by
  show pHead (a :: zs) = _
  rw [pHead]; exact if_pos ⟨h4, by rw [allB_cons, ha, h1]; rfl, h2⟩
 have q1 : ¬ (zs.length : Int) + 1 < 1 := by omega
 have q4 : ¬ (4 : Int) < zs.length + 1 := by omega
 have za := hz a (by simp)
 have HZ : Hid (∀ s ∈ a :: zs, s.size ≤ 4398046511104) := hz
 have HI : Hid (StrsAt 0 w.heap.size w (some ⟨g, off, none⟩) (a :: zs)) := hi
 have HD : Hid (StrsAt 0 w.heap.size w (some ⟨g, off + 1, none⟩) zs) := hi.drop 1
 obtain ⟨_, _, e0, hB, k0⟩ := hi.at 0 (by simp)
 cases e0
 have c0 : w.cell? ⟨g, off, none⟩ = some (.string a) := k0
 have hb0 : g < w.heap.size := hB.2
 clear hi hz k0
 go_enter Tryz.func171, Tryz.ntmps171
 go_wp2_with (go_at_call 140; refine (l1NameOk_any a _ (by omega)).mono ?_; rintro e wx ⟨rfl, rfl⟩; rw [ha])
 go_loopw [8] (fun i wr => ∃ k : Nat, k ≤ zs.length ∧ i = .int .i64 (k + 1 : Nat) ∧ Hid (allB nameB (zs.take k) = true) ∧ Hid (repTo zs k = false) ∧ Hid (Below w.heap.size w wr) ∧ Hid (Two w.heap.size wr (.int .i64 0) (.string ⟨#[]⟩) (.string ⟨#[]⟩) (.slice none 0 0) (.string ⟨#[]⟩) (.int .i64 1) (.string ⟨#[]⟩) (.string a) (.slice (some ⟨g, off + 1, none⟩) zs.length (c - 1)) (.string ⟨#[]⟩))) (fun i _ => zs.length + 1 - (intOf i).toNat)
 case atStart => exact ⟨0, Nat.zero_le _, rfl, by simp [Hid, allB], by simp [Hid, repTo], below_two _ _ _, Two.new _ _ _ _ _ _ _ _ _ _ _ _ _⟩
 case round =>
  obtain ⟨k, hk, rfl, HA, HR, HB, HTw⟩ := hrel
  have hws := HB.out.size
  by_cases hlt : k < zs.length
  ·have ck : wr.cell? ⟨g, off + (k + 1), none⟩ = some (.string zs[k]) := by
    obtain ⟨_, _, e1, _, hc1⟩ := (HI.out.below HB.out).at (k + 1) (by simp; omega)
    cases e1
    simpa using hc1
   have zk := HZ.out zs[k] (by simp)
   have HT : Hid (StrsAt 0 w.heap.size w (some ⟨g, off + 1, none⟩) (zs.take k)) := HD.out.take k
   have HK : Hid (k = (zs.take k).length) := by show _ = _; simp; omega
   have HK2 : Hid ((zs.take k).length ≤ 9223372036854775807) := by show _ ≤ _; simp; omega
   obtain ⟨x, hx⟩ : ∃ x, x = zs[k] := ⟨_, rfl⟩
   rw [← hx] at ck zk
   have p1 : (k : Int) + 1 < zs.length + 1 := by omega
   have p2 : (0 : Int) ≤ (k : Int) + 1 := by omega
   cases hn : nameB x with
   | false =>
    have HN : Hid (readP ((1 : Nat) : Int) (a :: zs) = none) := HNo.out k hlt (.inl ⟨hlt, by rw [← hx]; exact hn⟩)
    have CN : Hid (∀ W : World, Calls Tryz.prog 140 #[.string x] W fun e w' => e = .returned (.bool false) ∧ w' = W) := fun W => by
     have h := l1NameOk_any x W (by omega)
     rw [hn] at h; exact h
    clear hx
    go_wp2_with fail
    go_quiet ((go_at_call 140; exact Calls.quiet_of_same (CN.out _)))
    obtain ⟨x0, x1, x2, x3, x4, y0, y1, y2, y3, y4, fx⟩ := HTw.out
    obtain ⟨X0, X1, X2, X3, X4, Y0, Y1, Y2, Y3, Y4, FX⟩ := HTw.out.drewN nq
    go_wp2
    refine bodyPost_ret (v := .tuple #[.agg #[.int .i64 _, .string ⟨#[]⟩, .string a, .slice (some ⟨g, off + 1, none⟩) zs.length (c - 1), .string ⟨#[]⟩], .bool false]) (by simp [results, Tryz.results171, go_sem, X0, X1, X2, X3, X4]; rfl) rfl ?_
    exact made_no (args := zs) (below_ret (HB.out.trans (below_drewN (Below.refl _ _) nq)) _ _ _ _ _) (by omega) (strs_ret (HD.out.below (HB.out.trans (below_drewN (Below.refl _ _) nq))) hws _ _ _ _ _) HN.out (by simp)
   | true =>
    have CN : Hid (∀ W : World, Calls Tryz.prog 140 #[.string x] W fun e w' => e = .returned (.bool true) ∧ w' = W) := fun W => by
     have h := l1NameOk_any x W (by omega)
     rw [hn] at h; exact h
    cases hh : hasB (zs.take k) x with
    | true =>
     have HN : Hid (readP ((1 : Nat) : Int) (a :: zs) = none) := HNo.out k hlt (.inr ⟨hlt, by rw [← hx]; exact hh⟩)
     have CH : Hid (∀ n : Nat, Calls Tryz.prog 141 #[.slice (some ⟨g, off + 1, none⟩) k (c - 1), .string x] (wr.drewN n) fun e w' => e = .returned (.bool true) ∧ w' = wr.drewN n) := fun n => by
      have h := l1Has_n (some ⟨g, off + 1, none⟩) (c - 1) k (zs.take k) x w.heap.size (wr.drewN n) HK.out HK2.out ((HT.out.below HB.out).below (below_drewN (Below.refl _ _) n))
      rw [hh] at h; exact h
     clear hx
     go_wp2_with fail
     go_quiet ((first | (go_at_call 140; exact Calls.quiet_of_same (CN.out _)) | (go_at_call 141; exact Calls.quiet_of_same (CH.out _))))
     obtain ⟨x0, x1, x2, x3, x4, y0, y1, y2, y3, y4, fx⟩ := HTw.out
     obtain ⟨X0, X1, X2, X3, X4, Y0, Y1, Y2, Y3, Y4, FX⟩ := HTw.out.drewN nq
     go_wp2
     refine bodyPost_ret (v := .tuple #[.agg #[.int .i64 _, .string ⟨#[]⟩, .string a, .slice (some ⟨g, off + 1, none⟩) zs.length (c - 1), .string ⟨#[]⟩], .bool false]) (by simp [results, Tryz.results171, go_sem, X0, X1, X2, X3, X4]; rfl) rfl ?_
     exact made_no (args := zs) (below_ret (HB.out.trans (below_drewN (Below.refl _ _) nq)) _ _ _ _ _) (by omega) (strs_ret (HD.out.below (HB.out.trans (below_drewN (Below.refl _ _) nq))) hws _ _ _ _ _) HN.out (by simp)
    | false =>
     have HA2 : Hid (allB nameB (zs.take (k + 1)) = true) := by show _ = _; rw [allB_snoc _ _ _ hlt, HA.out, ← hx, hn]; rfl
     have HR2 : Hid (repTo zs (k + 1) = false) := by show _ = _; rw [repTo_succ _ _ hlt, HR.out, ← hx, hh]; rfl
     have CH : Hid (∀ n : Nat, Calls Tryz.prog 141 #[.slice (some ⟨g, off + 1, none⟩) k (c - 1), .string x] (wr.drewN n) fun e w' => e = .returned (.bool false) ∧ w' = wr.drewN n) := fun n => by
      have h := l1Has_n (some ⟨g, off + 1, none⟩) (c - 1) k (zs.take k) x w.heap.size (wr.drewN n) HK.out HK2.out ((HT.out.below HB.out).below (below_drewN (Below.refl _ _) n))
      rw [hh] at h; exact h
     clear hx
     go_wp2_with fail
     go_quiet ((first | (go_at_call 140; exact Calls.quiet_of_same (CN.out _)) | (go_at_call 141; exact Calls.quiet_of_same (CH.out _))))
     go_wp2_with fail
     go_roundw
     case rel => exact ⟨k + 1, by omega, by go_num, HA2, HR2, HB.out.trans (below_drewN (Below.refl _ _) nq), HTw.out.drewN nq⟩
     case measure => simp [intOf]; omega
  ·have HN : Hid (readP ((1 : Nat) : Int) (a :: zs) = some ⟨eS, a, zs, eS⟩) := by
    have e : k = zs.length := by omega
    refine HYes.out ?_ (by rw [← e]; exact HR.out)
    have := HA.out
    rw [e, List.take_length] at this; exact this
   obtain ⟨x0, x1, x2, x3, x4, y0, y1, y2, y3, y4, fx⟩ := HTw.out
   go_wp2
   refine bodyPost_ret (v := .tuple #[.agg #[.int .i64 _, .string ⟨#[]⟩, .string a, .slice (some ⟨g, off + 1, none⟩) zs.length (c - 1), .string ⟨#[]⟩], .bool true]) (by simp [results, Tryz.results171, go_sem, x0, x1, x2, x3, x4]; rfl) rfl ?_
   exact made_yes (args := zs) (below_ret HB.out _ _ _ _ _) (by omega) (strs_ret (HD.out.below HB.out) hws _ _ _ _ _) HN.out (by simp)
theorem l1Made_head_one (g off : Nat) (a : ByteArray) (w : World) (hz : ∀ s ∈ [a], s.size ≤ 4398046511104) (hi : StrsAt 0 w.heap.size w (some ⟨g, off, none⟩) [a]) (ha : nameB a = true) :
  Calls Tryz.prog 171 #[.int .i64 (1 : Nat), .slice (some ⟨g, off, none⟩) 1 1] w (MadeE w (1 : Nat) [a]) := by
 have HN : Hid (readP ((1 : Nat) : Int) [a] = some ⟨eS, a, [], eS⟩) := by
  show pHead [a] = _
  rw [pHead]; exact if_pos ⟨by decide, by rw [allB_cons, ha]; rfl, rfl⟩
 have za := hz a (by simp)
 obtain ⟨_, _, e0, hB, k0⟩ := hi.at 0 (by simp)
 cases e0
 have c0 : w.cell? ⟨g, off, none⟩ = some (.string a) := k0
 have hb0 : g < w.heap.size := hB.2
 clear hi hz k0
 go_enter Tryz.func171, Tryz.ntmps171
 go_wp2_with (go_at_call 140; refine (l1NameOk_any a _ (by omega)).mono ?_; rintro e wx ⟨rfl, rfl⟩; rw [ha])
 go_loop [8] (fun i => i = .int .i64 1) (fun _ => 0)
 case atStart => rfl
 case round =>
  subst hrel
  go_wp2
  refine bodyPost_ret (v := .tuple #[.agg #[.int .i64 _, .string ⟨#[]⟩, .string a, .slice (some ⟨g, off, none⟩) 0 0, .string ⟨#[]⟩], .bool true]) (by simp [results, Tryz.results171, go_sem]; rfl) rfl ?_
  exact made_yes (args := []) (below_two _ _ _) (Nat.le_refl _) (StrsAt.nil _ _ _ _) HN.out (Nat.zero_le _)
theorem l1Made_head (ao : Option Addr) (c : Nat) (ws : List ByteArray) (w : World) (hl : ws.length ≤ 4398046511000) (hc : ws.length ≤ c) (hz : ∀ s ∈ ws, s.size ≤ 4398046511104) (hi : StrsAt 0 w.heap.size w ao ws) :
  Calls Tryz.prog 171 #[.int .i64 (1 : Nat), .slice ao ws.length c] w (MadeE w (1 : Nat) ws) := by
 by_cases h4 : ws.length < 1 ∨ 4 < ws.length
 ·exact l1Made_head_len ao c ws w h4 hl
 match ws, h4, hl, hc, hz, hi with
 | [], h4, _, _, _, _ => exact absurd (.inl (by simp)) h4
 | a :: zs, h4, hl, hc, hz, hi =>
  obtain ⟨g, off, rfl, _⟩ := hi.at 0 (by simp)
  have h3 : zs.length ≤ 3 := by
   have : ¬ 4 < (a :: zs).length := fun h => h4 (.inr h)
   simp at this; omega
  rw [List.length_cons] at hc ⊢
  cases ha : nameB a with
  | false => exact l1Made_head_a g off c a zs w h3 hz hi ha
  | true =>
   by_cases hc1 : c = 1
   ·have e0 : zs = [] := List.length_eq_zero_iff.1 (by omega)
    subst e0
    subst hc1
    exact l1Made_head_one g off a w hz hi ha
   ·exact l1Made_head_loop g off c a zs w h3 hc hc1 hz hi ha
end
section
open Go.RowKit
def stC (s : Stp) (u : Value) : List Value := [.int .i64 s.code, .string s.to, .string s.name, u, .string s.undo, .int .i64 s.a, .int .i64 s.b]
def stA (s : Stp) : List ByteArray := s.args
abbrev OwnStp := OwnSt 52 7 stC stA
def StepAt (B : Nat) (w : World) (b o : Nat) (s : Stp) : Prop :=
 ∃ ao cap, s.args.length ≤ cap ∧ w.cell? ⟨b, o, none⟩ = some (.int .i64 s.code) ∧ w.cell? ⟨b, o + 1, none⟩ = some (.string s.to) ∧ w.cell? ⟨b, o + 2, none⟩ = some (.string s.name) ∧ w.cell? ⟨b, o + 3, none⟩ = some (.slice ao s.args.length cap) ∧ w.cell? ⟨b, o + 4, none⟩ = some (.string s.undo) ∧ w.cell? ⟨b, o + 5, none⟩ = some (.int .i64 s.a) ∧ w.cell? ⟨b, o + 6, none⟩ = some (.int .i64 s.b) ∧ StrsAt 0 B w ao s.args
def StepsAt (B : Nat) (w : World) (ao : Option Addr) (ss : List Stp) : Prop :=
 ∀ k (h : k < ss.length), ∃ b off, ao = some ⟨b, off, none⟩ ∧ b < B ∧ StepAt B w b (off + k * 7) ss[k]
section
variable {B B' : Nat} {w w' : World} {b o : Nat} {s : Stp} {ao : Option Addr} {ss : List Stp}
theorem StepAt.below (h : StepAt B w b o s) (hb : Below B w w') (hB : b < B) : StepAt B w' b o s := by
 obtain ⟨ao, cap, h0, h1, h2, h3, h4, h5, h6, h7, h8⟩ := h
 have hc := fun j => hb.cell (p := ⟨b, j, none⟩) hB
 exact ⟨ao, cap, h0, (hc _).trans h1, (hc _).trans h2, (hc _).trans h3, (hc _).trans h4, (hc _).trans h5, (hc _).trans h6, (hc _).trans h7, h8.below hb⟩
theorem StepAt.mono (h : StepAt B w b o s) (hB : B ≤ B') : StepAt B' w b o s := by
 obtain ⟨ao, cap, h0, h1, h2, h3, h4, h5, h6, h7, h8⟩ := h
 exact ⟨ao, cap, h0, h1, h2, h3, h4, h5, h6, h7, h8.mono (Nat.le_refl _) hB⟩
theorem StepsAt.below (h : StepsAt B w ao ss) (hb : Below B w w') : StepsAt B w' ao ss := by
 intro k hk
 obtain ⟨b, off, e, hB, hl⟩ := h k hk
 exact ⟨b, off, e, hB, hl.below hb hB⟩
theorem StepsAt.mono (h : StepsAt B w ao ss) (hB : B ≤ B') : StepsAt B' w ao ss := by
 intro k hk
 obtain ⟨b, off, e, hb, hl⟩ := h k hk
 exact ⟨b, off, e, Nat.lt_of_lt_of_le hb hB, hl.mono hB⟩
theorem StepsAt.later (h : StepsAt w.heap.size w ao ss) (hb : Below w.heap.size w w') : StepsAt w'.heap.size w' ao ss := (h.below hb).mono hb.size
end
end
section
open Go.RowKit
set_option linter.unusedVariables false
end
section
open Go.RowKit
set_option linter.unusedVariables false
end
section
open Go.RowKit
section
variable {α : Type} (mk : Nat → α → α) (cnt : α → Nat)
def markL : Nat → List α → List α
 | _, [] => []
 | k, p :: r => mk k p :: markL (k + cnt p) r
def endL : Nat → List α → Nat
 | k, [] => k
 | k, p :: r => endL (k + cnt p) r
theorem markL_len : ∀ (k : Nat) (ps : List α), (markL mk cnt k ps).length = ps.length
 | _, [] => rfl
 | k, p :: r => by simp [markL, markL_len _ r]
theorem endL_succ : ∀ (k : Nat) (ps : List α) (i : Nat) (h : i < ps.length), endL cnt k (ps.take (i + 1)) = endL cnt k (ps.take i) + cnt ps[i]
 | _, [], _, h => by simp at h
 | k, p :: r, 0, _ => by simp [endL]
 | k, p :: r, i + 1, h => by
  have := endL_succ (k + cnt p) r i (by simpa using h)
  simpa [endL] using this
theorem markL_at : ∀ (k : Nat) (ps : List α) (i : Nat) (h : i < (markL mk cnt k ps).length) (h' : i < ps.length), (markL mk cnt k ps)[i] = mk (endL cnt k (ps.take i)) ps[i]
 | _, [], _, h, _ => by simp [markL] at h
 | k, p :: r, 0, _, _ => by simp [markL, endL]
 | k, p :: r, i + 1, h, h' => by
  have h2 : i < r.length := by simpa using h'
  have := markL_at (k + cnt p) r i (by rw [markL_len]; exact h2) h2
  simpa [markL, endL] using this
theorem markP_map : ∀ (k : Nat) (ps : List (α × Value)), (markP mk cnt k ps).map (·.1) = markL mk cnt k (ps.map (·.1))
 | _, [] => rfl
 | k, p :: r => by simp [markP, markL, markP_map _ r]
theorem markEnd_map : ∀ (k : Nat) (ps : List (α × Value)), markEnd cnt k ps = endL cnt k (ps.map (·.1))
 | _, [] => rfl
 | k, p :: r => by simp [markEnd, endL, markEnd_map _ r]
theorem endL_le {k b : Nat} {ps : List α} (i : Nat) (h : endL cnt k ps ≤ b) : endL cnt k (ps.take i) ≤ b := by
 have hm : ∀ (ps : List α) (k : Nat), k ≤ endL cnt k ps := by
  intro ps
  induction ps with
  | nil => intro k; exact Nat.le_refl _
  | cons p r ih => intro k; have := ih (k + cnt p); simp only [endL]; omega
 have ha : ∀ (a c : List α) (k : Nat), endL cnt k (a ++ c) = endL cnt (endL cnt k a) c := by
  intro a c
  induction a with
  | nil => intro k; rfl
  | cons p r ih => intro k; simp only [List.cons_append, endL, ih]
 have h1 := ha (ps.take i) (ps.drop i) k
 rw [List.take_append_drop] at h1
 have h2 := hm (ps.drop i) (endL cnt k (ps.take i))
 omega
end
end
section
open Go.RowKit
theorem newWords_own (ao : Option Addr) (cap : Nat) (ss : List ByteArray) (w : World) (hl : ss.length ≤ 4398046511104) (hi : StrsAt 0 w.heap.size w ao ss) :
  Calls Tryz.prog 88 #[.slice ao ss.length cap] w fun e w' => ∃ v, e = .returned v ∧ Below w.heap.size w w' ∧ w'.ownsRow w.heap.size 9 1 v ss.length (strCells ss) := by
 obtain ⟨i0, hi0, hz0, hz1, hz2⟩ := info_parts Tryz.infoStr
 by_cases h0 : 0 < ss.length
 ·obtain ⟨b, off, rfl, hB, _⟩ := hi 0 h0
  have hcells : ∀ j u, (strCells ss)[j]? = some u → w.cell? ((⟨b, off, none⟩ : Addr).add j) = some u := strs_cells hi
  clear hi
  go_enter Tryz.func88, Tryz.ntmps88
  go_wp2_with (at_builtin; refine wpList_append_own _ rfl _ _ 45 rfl w.heap.size 9 i0 (.string ByteArray.empty) 1 16 Tryz.underlying45 hi0 hz0 hz1 hz2 rfl (by decide) _ _ _ rfl (World.ownsRow_nil _ _ _ _) ⟨b, off, none⟩ ss.length _ (strCells ss) rfl (by simp [strCells]) hcells (by intro u hu; simp [strCells] at hu; obtain ⟨a, _, rfl⟩ := hu; rfl) (by unfold maxLen; omega) (by omega) (Nat.le_refl _) ?_; intro v' w1 hown hgrow _)
  go_ret
  rw [Nat.zero_add, List.nil_append] at hown
  exact ⟨v', rfl, (Below.refl _ _).grown hgrow (Nat.le_refl _) (by intro k hk; cases hk), hown⟩
 ·have e : ss = [] := List.length_eq_zero_iff.1 (by omega)
  subst e
  cases ao with
  | none =>
   go_enter Tryz.func88, Tryz.ntmps88
   go_wp2
   go_ret
   exact ⟨_, rfl, Below.refl _ _, World.ownsRow_nil _ _ _ _⟩
  | some ad =>
   go_enter Tryz.func88, Tryz.ntmps88
   go_wp2_with (at_builtin; refine wpList_append_own _ rfl _ _ 45 rfl w.heap.size 9 i0 (.string ByteArray.empty) 1 16 Tryz.underlying45 hi0 hz0 hz1 hz2 rfl (by decide) _ _ _ rfl (World.ownsRow_nil _ _ _ _) ad 0 _ [] rfl rfl (by intro j u hj; simp at hj) (by intro u hu; simp at hu) (by unfold maxLen; omega) (by omega) (Nat.le_refl _) ?_; intro v' w1 hown hgrow _)
   go_ret
   exact ⟨v', rfl, (Below.refl _ _).grown hgrow (Nat.le_refl _) (by intro k hk; cases hk), hown⟩
end
section
open Go.RowKit
structure MkSt (q base : Nat) (lo : Option Addr) (cap : Nat) (ls : List Ln) (w : World) (at_ : Nat) (v : Value) (ps : List (Stp × Value)) : Prop where
 obj : w.heap[q]? = some (.cells #[v, .slice lo ls.length cap, .int .i64 at_] 67 (0, 0))
 own : OwnStp base w v ps
 lines : LinesAt q w lo ls
 qb : q < base
 bw : base ≤ w.heap.size
section
variable {q base : Nat} {lo : Option Addr} {cap : Nat} {ls : List Ln} {w w' : World} {at_ : Nat} {v v' : Value} {ps : List (Stp × Value)}
theorem MkSt.lt (h : MkSt q base lo cap ls w at_ v ps) : q < w.heap.size := (Array.getElem?_eq_some_iff.1 h.obj).1
theorem MkSt.c0 (h : MkSt q base lo cap ls w at_ v ps) : w.cell? ⟨q, 0, none⟩ = some v := by rw [cell_of_row _ _ 0 _ _ _ h.obj]; rfl
theorem MkSt.c1 (h : MkSt q base lo cap ls w at_ v ps) : w.cell? ⟨q, 1, none⟩ = some (.slice lo ls.length cap) := by rw [cell_of_row _ _ 1 _ _ _ h.obj]; rfl
theorem MkSt.c2 (h : MkSt q base lo cap ls w at_ v ps) : w.cell? ⟨q, 2, none⟩ = some (.int .i64 at_) := by rw [cell_of_row _ _ 2 _ _ _ h.obj]; rfl
theorem MkSt.fz (h : MkSt q base lo cap ls w at_ v ps) (j : Nat) : w.frozen? ⟨q, j, none⟩ = false := frozen_of_row _ _ j _ _ h.obj
theorem MkSt.row_lt (h : MkSt q base lo cap ls w at_ v ps) {k : Nat} (hk : v.ownBlock = some k) : base ≤ k ∧ k < w.heap.size := h.own.row.lt k hk
theorem MkSt.below (h : MkSt q base lo cap ls w at_ v ps) (hb : Below w.heap.size w w') : MkSt q base lo cap ls w' at_ v ps :=
 ⟨(hb.block q h.lt).trans h.obj, h.own.below hb, h.lines.below (hb.mono (Nat.le_of_lt h.lt)), h.qb, Nat.le_trans h.bw hb.size⟩
theorem Wk.lines (hk : Wk q v.ownBlock w w') (h : MkSt q base lo cap ls w at_ v ps) : Below q w w' :=
 hk.below q (Nat.le_refl _) (Nat.le_of_lt h.lt) fun k e => by have := (h.row_lt e).1; have := h.qb; omega
end
end
section
open Go.RowKit
set_option linter.unusedVariables false
end
section
open Go.RowKit
set_option linter.unusedVariables false
end
section
open Go.RowKit
set_option linter.unusedSimpArgs false
theorem l1Made_let_a (g off c : Nat) (a b x : ByteArray) (r : List ByteArray) (hl : r.length ≤ 4398046511000) (w : World) (hc : r.length + 3 ≤ c) (hz : ∀ s ∈ a :: b :: x :: r, s.size ≤ 4398046511104) (hi : StrsAt 0 w.heap.size w (some ⟨g, off, none⟩) (a :: b :: x :: r)) (ha : nameB a = false) :
  Calls Tryz.prog 171 #[.int .i64 (2 : Nat), .slice (some ⟨g, off, none⟩) (r.length + 3) c] w (MadeE w (2 : Nat) (a :: b :: x :: r)) := by
 have HN : Hid (readP ((2 : Nat) : Int) (a :: b :: x :: r) = none) := by show pLet (a :: b :: x :: r) = _; rw [pLet]; exact if_neg (by rw [ha]; exact fun h => Bool.noConfusion h.1)
 have za := hz a (by simp)
 obtain ⟨_, _, e0, hB, k0⟩ := hi.at 0 (by simp)
 cases e0
 have c0 : w.cell? ⟨g, off, none⟩ = some (.string a) := k0
 obtain ⟨_, _, e1, _, k1⟩ := hi.at 1 (by simp)
 cases e1
 have c1 : w.cell? ⟨g, off + 1, none⟩ = some (.string b) := k1
 have hb0 : g < w.heap.size := hB.2
 have p0 : (0 : Int) < r.length + 3 := by omega
 have p1 : (1 : Int) < r.length + 3 := by omega
 have q0 : decide ((r.length : Int) + 3 < 3) = false := by simp; omega
 clear hi hz k0 k1
 go_enter Tryz.func171, Tryz.ntmps171
 go_wp2_with fail
 refine wp_region_held_drew (S := (fun w' => w'.cell? ⟨g, off, none⟩ = some (.string a) ∧ w'.cell? ⟨g, off + 1, none⟩ = some (.string b))) (by kernel_rfl) ?_ (fun hHeld => ?_)
 ·try dsimp only
  first | assumption | (go_keep; done)
 refine tkL 0 ?_
 try simp only [Act.put, nA, nB, nC, nD, nE, nF]
 refine tkL 1 ?_
 try simp only [Act.put, nA, nB, nC, nD, nE, nF]
 refine tkL 2 ?_
 try simp only [Act.put, nA, nB, nC, nD, nE, nF]
 refine tkL 3 ?_
 try simp only [Act.put, nA, nB, nC, nD, nE, nF]
 refine tkL 4 ?_
 try simp only [Act.put, nA, nB, nC, nD, nE, nF]
 refine tkL 5 ?_
 try simp only [Act.put, nA, nB, nC, nD, nE, nF]
 refine wpAnyH_ready (rs := [6]) (by kernel_rfl) (by simp) ?_
 refine AllReadyH.cons rfl (fun K hK => ?_) AllReadyH.nil
 go_simp
 go_wp2_with (go_at_call 140; refine (l1NameOk_any a _ (by omega)).mono ?_; rintro e wx ⟨rfl, rfl⟩; rw [ha])
 refine hK.out _ _ ?_ (fun hHeld => ?_)
 ·try dsimp only
  first | assumption | (go_keep; done)
 clear hK K
 try simp only [Act.put, nA, nB, nC, nD, nE, nF]
 refine tkL 7 ?_
 try simp only [Act.put, nA, nB, nC, nD, nE, nF]
 refine tkL 8 ?_
 try simp only [Act.put, nA, nB, nC, nD, nE, nF]
 refine tkL 9 ?_
 try simp only [Act.put, nA, nB, nC, nD, nE, nF]
 refine tkR 10 ?_
 try simp only [Act.put, nA, nB, nC, nD, nE, nF]
 refine tkR 11 ?_
 try simp only [Act.put, nA, nB, nC, nD, nE, nF]
 refine tkR 12 ?_
 try simp only [Act.put, nA, nB, nC, nD, nE, nF]
 refine tkR 13 ?_
 try simp only [Act.put, nA, nB, nC, nD, nE, nF]
 refine tkR 14 ?_
 try simp only [Act.put, nA, nB, nC, nD, nE, nF]
 refine tkR 15 ?_
 try simp only [Act.put, nA, nB, nC, nD, nE, nF]
 refine tkL 16 ?_
 try simp only [Act.put, nA, nB, nC, nD, nE, nF]
 refine tkL 17 ?_
 try simp only [Act.put, nA, nB, nC, nD, nE, nF]
 refine tkR 18 ?_
 try simp only [Act.put, nA, nB, nC, nD, nE, nF]
 refine tkR 19 ?_
 try simp only [Act.put, nA, nB, nC, nD, nE, nF]
 refine tkR 20 ?_
 try simp only [Act.put, nA, nB, nC, nD, nE, nF]
 refine tkR 21 ?_
 try simp only [Act.put, nA, nB, nC, nD, nE, nF]
 refine tkR 22 ?_
 try simp only [Act.put, nA, nB, nC, nD, nE, nF]
 refine tkR 23 ?_
 try simp only [Act.put, nA, nB, nC, nD, nE, nF]
 refine tkR 24 ?_
 try simp only [Act.put, nA, nB, nC, nD, nE, nF]
 refine tkR 25 ?_
 try simp only [Act.put, nA, nB, nC, nD, nE, nF]
 refine tkL 26 ?_
 try simp only [Act.put, nA, nB, nC, nD, nE, nF]
 refine tkL 27 ?_
 try simp only [Act.put, nA, nB, nC, nD, nE, nF]
 refine tkR 28 ?_
 try simp only [Act.put, nA, nB, nC, nD, nE, nF]
 refine tkR 29 ?_
 try simp only [Act.put, nA, nB, nC, nD, nE, nF]
 refine tkR 30 ?_
 try simp only [Act.put, nA, nB, nC, nD, nE, nF]
 refine tkR 31 ?_
 try simp only [Act.put, nA, nB, nC, nD, nE, nF]
 refine tkR 32 ?_
 try simp only [Act.put, nA, nB, nC, nD, nE, nF]
 refine tkR 33 ?_
 try simp only [Act.put, nA, nB, nC, nD, nE, nF]
 refine tkR 34 ?_
 try simp only [Act.put, nA, nB, nC, nD, nE, nF]
 refine tkR 35 ?_
 try simp only [Act.put, nA, nB, nC, nD, nE, nF]
 refine tkL 36 ?_
 try simp only [Act.put, nA, nB, nC, nD, nE, nF]
 refine tkL 37 ?_
 try simp only [Act.put, nA, nB, nC, nD, nE, nF]
 refine tkR 38 ?_
 try simp only [Act.put, nA, nB, nC, nD, nE, nF]
 refine tkR 39 ?_
 try simp only [Act.put, nA, nB, nC, nD, nE, nF]
 refine tkR 40 ?_
 try simp only [Act.put, nA, nB, nC, nD, nE, nF]
 refine tkR 41 ?_
 try simp only [Act.put, nA, nB, nC, nD, nE, nF]
 refine tkL 42 ?_
 try simp only [Act.put, nA, nB, nC, nD, nE, nF]
 refine wpAnyH_done (by kernel_rfl) ?_ _
 all_goals
  go_wp2_with fail
  refine bodyPost_ret (v := .tuple #[.agg #[.int .i64 _, .string ⟨#[]⟩, .string ⟨#[]⟩, .slice none 0 0, .string ⟨#[]⟩], .bool false]) (by simp [results, Tryz.results171, go_sem]; rfl) rfl ?_
  exact made_no (args := []) (below_two _ _ _).drew (Nat.le_refl _) (StrsAt.nil _ _ _ _) HN.out (Nat.zero_le _)
end
section
open Go.RowKit
set_option linter.unusedSimpArgs false
theorem l1Made_let_b (g off c : Nat) (a b x : ByteArray) (r : List ByteArray) (hl : r.length ≤ 4398046511000) (w : World) (hc : r.length + 3 ≤ c) (hz : ∀ s ∈ a :: b :: x :: r, s.size ≤ 4398046511104) (hi : StrsAt 0 w.heap.size w (some ⟨g, off, none⟩) (a :: b :: x :: r)) (ha : nameB a = true) (hh : hasB opsS b = false) :
  Calls Tryz.prog 171 #[.int .i64 (2 : Nat), .slice (some ⟨g, off, none⟩) (r.length + 3) c] w (MadeE w (2 : Nat) (a :: b :: x :: r)) := by
 have HN : Hid (readP ((2 : Nat) : Int) (a :: b :: x :: r) = none) := by show pLet (a :: b :: x :: r) = _; rw [pLet]; exact if_neg (by rw [letN_no hh]; exact fun h => by have := h.2.2; omega)
 have za := hz a (by simp)
 obtain ⟨_, _, e0, hB, k0⟩ := hi.at 0 (by simp)
 cases e0
 have c0 : w.cell? ⟨g, off, none⟩ = some (.string a) := k0
 obtain ⟨_, _, e1, _, k1⟩ := hi.at 1 (by simp)
 cases e1
 have c1 : w.cell? ⟨g, off + 1, none⟩ = some (.string b) := k1
 have hb0 : g < w.heap.size := hB.2
 have p0 : (0 : Int) < r.length + 3 := by omega
 have p1 : (1 : Int) < r.length + 3 := by omega
 have q0 : decide ((r.length : Int) + 3 < 3) = false := by simp; omega
 clear hi hz k0 k1
 go_enter Tryz.func171, Tryz.ntmps171
 go_wp2_with fail
 refine wp_region_held_drew (S := (fun w' => w'.cell? ⟨g, off, none⟩ = some (.string a) ∧ w'.cell? ⟨g, off + 1, none⟩ = some (.string b))) (by kernel_rfl) ?_ (fun hHeld => ?_)
 ·try dsimp only
  first | assumption | (go_keep; done)
 refine tkL 0 ?_
 try simp only [Act.put, nA, nB, nC, nD, nE, nF]
 refine tkL 1 ?_
 try simp only [Act.put, nA, nB, nC, nD, nE, nF]
 refine tkL 2 ?_
 try simp only [Act.put, nA, nB, nC, nD, nE, nF]
 refine tkL 3 ?_
 try simp only [Act.put, nA, nB, nC, nD, nE, nF]
 refine tkL 4 ?_
 try simp only [Act.put, nA, nB, nC, nD, nE, nF]
 refine tkL 5 ?_
 try simp only [Act.put, nA, nB, nC, nD, nE, nF]
 refine wpAnyH_ready (rs := [6]) (by kernel_rfl) (by simp) ?_
 refine AllReadyH.cons rfl (fun K hK => ?_) AllReadyH.nil
 go_simp
 go_wp2_with (go_at_call 140; refine (l1NameOk_any a _ (by omega)).mono ?_; rintro e wx ⟨rfl, rfl⟩; rw [ha])
 refine hK.out _ _ ?_ (fun hHeld => ?_)
 ·try dsimp only
  first | assumption | (go_keep; done)
 clear hK K
 try simp only [Act.put, nA, nB, nC, nD, nE, nF]
 refine tkL 7 ?_
 try simp only [Act.put, nA, nB, nC, nD, nE, nF]
 refine tkL 8 ?_
 try simp only [Act.put, nA, nB, nC, nD, nE, nF]
 refine tkL 9 ?_
 try simp only [Act.put, nA, nB, nC, nD, nE, nF]
 refine tkL 11 ?_
 try simp only [Act.put, nA, nB, nC, nD, nE, nF]
 refine tkL 12 ?_
 try simp only [Act.put, nA, nB, nC, nD, nE, nF]
 refine tkL 13 ?_
 try simp only [Act.put, nA, nB, nC, nD, nE, nF]
 refine wpAnyH_ready (rs := [10]) (by kernel_rfl) (by simp) ?_
 refine AllReadyH.cons rfl (fun K hK => ?_) AllReadyH.nil
 go_simp
 go_wp2_with (go_at_call 196; refine (l1Ops_any _).mono ?_; rintro e w1 ⟨rfl, hb1, hs1⟩; obtain ⟨HB1, HS1, ⟨hz1, hz2⟩, ⟨r0, r1, r2, r3, r4⟩, ⟨s0, s1, s2, s3, s4⟩, f0, f1⟩ := row_made hb1 hs1; have d0 := (HB1.out.cell (p := ⟨g, off, none⟩) hb0).trans c0; have d1 := (HB1.out.cell (p := ⟨g, off + 1, none⟩) hb0).trans c1; clear hb1 hs1)
 refine hK.out _ _ ?_ (fun hHeld => ?_)
 ·try dsimp only
  first | assumption | exact ⟨d0, d1⟩ | (go_keep; done)
 clear hK K
 try simp only [Act.put, nA, nB, nC, nD, nE, nF]
 refine wpAnyH_ready (rs := [14]) (by kernel_rfl) (by simp) ?_
 refine AllReadyH.cons rfl (fun K hK => ?_) AllReadyH.nil
 go_simp
 go_wp2_with (go_at_call 141; refine (l1Has_any _ 4 opsS b _ _ (by decide) HS1.out).mono ?_; rintro e w2 ⟨rfl, rfl⟩; rw [hh])
 refine hK.out _ _ ?_ (fun hHeld => ?_)
 ·try dsimp only
  first | assumption | exact ⟨d0, d1⟩ | (go_keep; done)
 clear hK K
 try simp only [Act.put, nA, nB, nC, nD, nE, nF]
 refine tkL 15 ?_
 try simp only [Act.put, nA, nB, nC, nD, nE, nF]
 refine tkL 16 ?_
 try simp only [Act.put, nA, nB, nC, nD, nE, nF]
 refine tkL 17 ?_
 try simp only [Act.put, nA, nB, nC, nD, nE, nF]
 refine tkR 18 ?_
 try simp only [Act.put, nA, nB, nC, nD, nE, nF]
 refine tkR 19 ?_
 try simp only [Act.put, nA, nB, nC, nD, nE, nF]
 refine tkR 20 ?_
 try simp only [Act.put, nA, nB, nC, nD, nE, nF]
 refine tkR 21 ?_
 try simp only [Act.put, nA, nB, nC, nD, nE, nF]
 refine tkR 22 ?_
 try simp only [Act.put, nA, nB, nC, nD, nE, nF]
 refine tkR 23 ?_
 try simp only [Act.put, nA, nB, nC, nD, nE, nF]
 refine tkR 24 ?_
 try simp only [Act.put, nA, nB, nC, nD, nE, nF]
 refine tkR 25 ?_
 try simp only [Act.put, nA, nB, nC, nD, nE, nF]
 refine tkL 26 ?_
 try simp only [Act.put, nA, nB, nC, nD, nE, nF]
 refine tkL 27 ?_
 try simp only [Act.put, nA, nB, nC, nD, nE, nF]
 refine tkR 28 ?_
 try simp only [Act.put, nA, nB, nC, nD, nE, nF]
 refine tkR 29 ?_
 try simp only [Act.put, nA, nB, nC, nD, nE, nF]
 refine tkR 30 ?_
 try simp only [Act.put, nA, nB, nC, nD, nE, nF]
 refine tkR 31 ?_
 try simp only [Act.put, nA, nB, nC, nD, nE, nF]
 refine tkR 32 ?_
 try simp only [Act.put, nA, nB, nC, nD, nE, nF]
 refine tkR 33 ?_
 try simp only [Act.put, nA, nB, nC, nD, nE, nF]
 refine tkR 34 ?_
 try simp only [Act.put, nA, nB, nC, nD, nE, nF]
 refine tkR 35 ?_
 try simp only [Act.put, nA, nB, nC, nD, nE, nF]
 refine tkL 36 ?_
 try simp only [Act.put, nA, nB, nC, nD, nE, nF]
 refine tkL 37 ?_
 try simp only [Act.put, nA, nB, nC, nD, nE, nF]
 refine tkR 38 ?_
 try simp only [Act.put, nA, nB, nC, nD, nE, nF]
 refine tkR 39 ?_
 try simp only [Act.put, nA, nB, nC, nD, nE, nF]
 refine tkR 40 ?_
 try simp only [Act.put, nA, nB, nC, nD, nE, nF]
 refine tkR 41 ?_
 try simp only [Act.put, nA, nB, nC, nD, nE, nF]
 refine tkL 42 ?_
 try simp only [Act.put, nA, nB, nC, nD, nE, nF]
 refine wpAnyH_done (by kernel_rfl) ?_ _
 all_goals
  go_wp2_with fail
  refine bodyPost_ret (v := .tuple #[.agg #[.int .i64 _, .string ⟨#[]⟩, .string ⟨#[]⟩, .slice none 0 0, .string ⟨#[]⟩], .bool false]) (by simp [results, Tryz.results171, go_sem, r0, r1, r2, r3, r4]; rfl) rfl ?_
  exact made_no (args := []) (below_ret HB1.out _ _ _ _ _) (Nat.le_refl _) (StrsAt.nil _ _ _ _) HN.out (Nat.zero_le _)
end
end Go.Proofs.YtlbjjbolbopfmaaGreatDoor
