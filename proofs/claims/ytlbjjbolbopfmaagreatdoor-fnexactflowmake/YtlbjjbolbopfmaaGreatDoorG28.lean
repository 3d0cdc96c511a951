import Derived.Test.YtlbjjbolbopfmaaGreatDoorG26
import Derived.Test.YtlbjjbolbopfmaaGreatDoorG21
import Derived.Test.YtlbjjbolbopfmaaGreatDoorG20
import Derived.Test.YtlbjjbolbopfmaaGreatDoorG09
namespace Go.Proofs.YtlbjjbolbopfmaaGreatDoor
set_option maxHeartbeats 8000000
set_option maxRecDepth 1000000
set_option linter.unusedVariables false
section
open Go.RowKit
structure Two (g : Nat) (w : World) (x0 x1 x2 x3 x4 y0 y1 y2 y3 y4 : Value) : Prop where
 x0 : w.cell? ⟨g, 0, none⟩ = some x0
 x1 : w.cell? ⟨g, 1, none⟩ = some x1
 x2 : w.cell? ⟨g, 2, none⟩ = some x2
 x3 : w.cell? ⟨g, 3, none⟩ = some x3
 x4 : w.cell? ⟨g, 4, none⟩ = some x4
 y0 : w.cell? ⟨g + 1, 0, none⟩ = some y0
 y1 : w.cell? ⟨g + 1, 1, none⟩ = some y1
 y2 : w.cell? ⟨g + 1, 2, none⟩ = some y2
 y3 : w.cell? ⟨g + 1, 3, none⟩ = some y3
 y4 : w.cell? ⟨g + 1, 4, none⟩ = some y4
 fx : ∀ o, w.frozen? ⟨g, o, none⟩ = false
theorem Two.drewN {g : Nat} {w : World} {x0 x1 x2 x3 x4 y0 y1 y2 y3 y4 : Value} (h : Two g w x0 x1 x2 x3 x4 y0 y1 y2 y3 y4) (n : Nat) : Two g (w.drewN n) x0 x1 x2 x3 x4 y0 y1 y2 y3 y4 := ⟨h.x0, h.x1, h.x2, h.x3, h.x4, h.y0, h.y1, h.y2, h.y3, h.y4, h.fx⟩
theorem Two.new (w : World) (x0 x1 x2 x3 x4 y0 y1 y2 y3 y4 : Value) (t t' : TypeId) : Two w.heap.size ((w.alloc (.cells #[x0, x1, x2, x3, x4] t)).alloc (.cells #[y0, y1, y2, y3, y4] t')) x0 x1 x2 x3 x4 y0 y1 y2 y3 y4 := by
 constructor <;> simp [go_sem]
theorem strs_ret {w w1 : World} {ao : Option Addr} {ss : List ByteArray} (h : StrsAt 0 w.heap.size w1 ao ss) (hw : w.heap.size ≤ w1.heap.size) (v0 v1 v2 v3 v4 : Value) : StrsAt 0 (((((w1.setCell ⟨w.heap.size, 0, none⟩ v0).setCell ⟨w.heap.size, 1, none⟩ v1).setCell ⟨w.heap.size, 2, none⟩ v2).setCell ⟨w.heap.size, 3, none⟩ v3).setCell ⟨w.heap.size, 4, none⟩ v4).heap.size (((((w1.setCell ⟨w.heap.size, 0, none⟩ v0).setCell ⟨w.heap.size, 1, none⟩ v1).setCell ⟨w.heap.size, 2, none⟩ v2).setCell ⟨w.heap.size, 3, none⟩ v3).setCell ⟨w.heap.size, 4, none⟩ v4) ao ss :=
 (((((h.setCell (p := ⟨w.heap.size, 0, none⟩) (.inr (Nat.le_refl _)) v0).setCell (p := ⟨w.heap.size, 1, none⟩) (.inr (Nat.le_refl _)) v1).setCell (p := ⟨w.heap.size, 2, none⟩) (.inr (Nat.le_refl _)) v2).setCell (p := ⟨w.heap.size, 3, none⟩) (.inr (Nat.le_refl _)) v3).setCell (p := ⟨w.heap.size, 4, none⟩) (.inr (Nat.le_refl _)) v4).mono (Nat.le_refl _) (by simpa [World.setCell] using hw)
theorem l1Has_n (ao : Option Addr) (cap n : Nat) (ss : List ByteArray) (s : ByteArray) (B : Nat) (w : World) (hn : n = ss.length) (hl : ss.length ≤ 9223372036854775807) (hi : StrsAt 0 B w ao ss) :
  Calls Tryz.prog 141 #[.slice ao n cap, .string s] w fun e w' => e = .returned (.bool (hasB ss s)) ∧ w' = w := by
 subst hn; exact l1Has_any ao cap ss s B w hl hi
theorem pHead_no {a : ByteArray} {zs : List ByteArray} (h : ¬ (zs.length ≤ 3 ∧ allB nameB (a :: zs) = true ∧ repTo zs zs.length = false)) : readP ((1 : Nat) : Int) (a :: zs) = none := by
 show pHead (a :: zs) = none
 rw [pHead]; exact if_neg h
theorem l1Made_head_len (ao : Option Addr) (c : Nat) (ws : List ByteArray) (w : World) (h4 : ws.length < 1 ∨ 4 < ws.length) (hl : ws.length ≤ 4398046511000) :
  Calls Tryz.prog 171 #[.int .i64 (1 : Nat), .slice ao ws.length c] w (MadeE w (1 : Nat) ws) := by
 have HN : Hid (readP ((1 : Nat) : Int) ws = none) := by
  match ws, h4 with
  | [], _ => rfl
  | a :: zs, h => exact pHead_no (fun h2 => by have := h2.1; simp at h; omega)
 rcases h4 with h4 | h4
 ·have q1 : (ws.length : Int) < 1 := by omega
  clear h4
  go_enter Tryz.func171, Tryz.ntmps171
  go_wp2
  refine bodyPost_ret (v := .tuple #[.agg #[.int .i64 _, .string ⟨#[]⟩, .string ⟨#[]⟩, .slice none 0 0, .string ⟨#[]⟩], .bool false]) (by simp [results, Tryz.results171, go_sem]; rfl) rfl ?_
  exact made_no (args := []) (below_two _ _ _) (Nat.le_refl _) (StrsAt.nil _ _ _ _) HN.out (Nat.zero_le _)
 ·have q1 : ¬ (ws.length : Int) < 1 := by omega
  have q4 : (4 : Int) < ws.length := by omega
  clear h4
  go_enter Tryz.func171, Tryz.ntmps171
  go_wp2
  refine bodyPost_ret (v := .tuple #[.agg #[.int .i64 _, .string ⟨#[]⟩, .string ⟨#[]⟩, .slice none 0 0, .string ⟨#[]⟩], .bool false]) (by simp [results, Tryz.results171, go_sem]; rfl) rfl ?_
  exact made_no (args := []) (below_two _ _ _) (Nat.le_refl _) (StrsAt.nil _ _ _ _) HN.out (Nat.zero_le _)
theorem l1Made_head_a (g off c : Nat) (a : ByteArray) (zs : List ByteArray) (w : World) (h4 : zs.length ≤ 3) (hz : ∀ s ∈ a :: zs, s.size ≤ 4398046511104) (hi : StrsAt 0 w.heap.size w (some ⟨g, off, none⟩) (a :: zs)) (ha : nameB a = false) :
  Calls Tryz.prog 171 #[.int .i64 (1 : Nat), .slice (some ⟨g, off, none⟩) (zs.length + 1) c] w (MadeE w (1 : Nat) (a :: zs)) := by
 have HN : Hid (readP ((1 : Nat) : Int) (a :: zs) = none) := pHead_no (fun h => by have := h.2.1; rw [allB_cons, ha] at this; exact Bool.noConfusion this)
 have q1 : ¬ (zs.length : Int) + 1 < 1 := by omega
 have q4 : ¬ (4 : Int) < zs.length + 1 := by omega
 have za := hz a (by simp)
 obtain ⟨_, _, e0, hB, k0⟩ := hi.at 0 (by simp)
 cases e0
 have c0 : w.cell? ⟨g, off, none⟩ = some (.string a) := k0
 have hb0 : g < w.heap.size := hB.2
 clear hi hz k0
 go_enter Tryz.func171, Tryz.ntmps171
 go_wp2_with (go_at_call 140; refine (l1NameOk_any a _ (by omega)).mono ?_; rintro e wx ⟨rfl, rfl⟩; rw [ha])
 refine bodyPost_ret (v := .tuple #[.agg #[.int .i64 _, .string ⟨#[]⟩, .string ⟨#[]⟩, .slice none 0 0, .string ⟨#[]⟩], .bool false]) (by simp [results, Tryz.results171, go_sem]; rfl) rfl ?_
 exact made_no (args := []) (below_two _ _ _) (Nat.le_refl _) (StrsAt.nil _ _ _ _) HN.out (Nat.zero_le _)
theorem l1Made_head_loop (g off c : Nat) (a : ByteArray) (zs : List ByteArray) (w : World) (h4 : zs.length ≤ 3) (hc : zs.length + 1 ≤ c) (hc1 : ¬ c = 1) (hz : ∀ s ∈ a :: zs, s.size ≤ 4398046511104) (hi : StrsAt 0 w.heap.size w (some ⟨g, off, none⟩) (a :: zs)) (ha : nameB a = true) :
  Calls Tryz.prog 171 #[.int .i64 (1 : Nat), .slice (some ⟨g, off, none⟩) (zs.length + 1) c] w (MadeE w (1 : Nat) (a :: zs)) := by
 have HNo : Hid (∀ k, k < zs.length → ((∃ h : k < zs.length, nameB zs[k] = false) ∨ (∃ h : k < zs.length, hasB (zs.take k) zs[k] = true)) → readP ((1 : Nat) : Int) (a :: zs) = none) := by
  intro k hk hh
  refine pHead_no fun h => ?_
  rcases hh with ⟨h1, hh⟩ | ⟨h1, hh⟩
  ·have := allB_no nameB zs k h1 hh
   have h2 := h.2.1
   rw [allB_cons, this, Bool.and_false] at h2
   exact Bool.noConfusion h2
  ·rw [repTo_yes zs k zs.length h1 h1 hh] at h
   exact Bool.noConfusion h.2.2
 have HYes : Hid (allB nameB zs = true → repTo zs zs.length = false → readP ((1 : Nat) : Int) (a :: zs) = some ⟨eS, a, zs, eS⟩) := fun h1 h2 => by
  show pHead (a :: zs) = _
  rw [pHead]; exact if_pos ⟨h4, by rw [allB_cons, ha, h1]; rfl, h2⟩
 have q1 : ¬ (zs.length : Int) + 1 < 1 := by omega
 have q4 : ¬ (4 : Int) < zs.length + 1 := by omega
 have za := hz a (by simp)
 have HZ : Hid (∀ s ∈ a :: zs, s.size ≤ 4398046511104) := hz
 have HI : Hid (StrsAt 0 w.heap.size w (some ⟨g, off, none⟩) (a :: zs)) := hi
 have HD : Hid (StrsAt 0 w.heap.size w (some ⟨g, off + 1, none⟩) zs) := hi.drop 1
 obtain ⟨_, _, e0, hB, k0⟩ := hi.at 0 (by simp)
 cases e0
 have c0 : w.cell? ⟨g, off, none⟩ = some (.string a) := k0
 have hb0 : g < w.heap.size := hB.2
 clear hi hz k0
 go_enter Tryz.func171, Tryz.ntmps171
 go_wp2_with (go_at_call 140; refine (l1NameOk_any a _ (by omega)).mono ?_; rintro e wx ⟨rfl, rfl⟩; rw [ha])
 go_loopw [8] (fun i wr => ∃ k : Nat, k ≤ zs.length ∧ i = .int .i64 (k + 1 : Nat) ∧ Hid (allB nameB (zs.take k) = true) ∧ Hid (repTo zs k = false) ∧ Hid (Below w.heap.size w wr) ∧ Hid (Two w.heap.size wr (.int .i64 0) (.string ⟨#[]⟩) (.string ⟨#[]⟩) (.slice none 0 0) (.string ⟨#[]⟩) (.int .i64 1) (.string ⟨#[]⟩) (.string a) (.slice (some ⟨g, off + 1, none⟩) zs.length (c - 1)) (.string ⟨#[]⟩))) (fun i _ => zs.length + 1 - (intOf i).toNat)
 case atStart => exact ⟨0, Nat.zero_le _, rfl, by simp [Hid, allB], by simp [Hid, repTo], below_two _ _ _, Two.new _ _ _ _ _ _ _ _ _ _ _ _ _⟩
 case round =>
  obtain ⟨k, hk, rfl, HA, HR, HB, HTw⟩ := hrel
  have hws := HB.out.size
  by_cases hlt : k < zs.length
  ·have ck : wr.cell? ⟨g, off + (k + 1), none⟩ = some (.string zs[k]) := by
    obtain ⟨_, _, e1, _, hc1⟩ := (HI.out.below HB.out).at (k + 1) (by simp; omega)
    cases e1
    simpa using hc1
   have zk := HZ.out zs[k] (by simp)
   have HT : Hid (StrsAt 0 w.heap.size w (some ⟨g, off + 1, none⟩) (zs.take k)) := HD.out.take k
   have HK : Hid (k = (zs.take k).length) := by show _ = _; simp; omega
   have HK2 : Hid ((zs.take k).length ≤ 9223372036854775807) := by show _ ≤ _; simp; omega
   obtain ⟨x, hx⟩ : ∃ x, x = zs[k] := ⟨_, rfl⟩
   rw [← hx] at ck zk
   have p1 : (k : Int) + 1 < zs.length + 1 := by omega
   have p2 : (0 : Int) ≤ (k : Int) + 1 := by omega
   cases hn : nameB x with
   | false =>
    have HN : Hid (readP ((1 : Nat) : Int) (a :: zs) = none) := HNo.out k hlt (.inl ⟨hlt, by rw [← hx]; exact hn⟩)
    have CN : Hid (∀ W : World, Calls Tryz.prog 140 #[.string x] W fun e w' => e = .returned (.bool false) ∧ w' = W) := fun W => by
     have h := l1NameOk_any x W (by omega)
     rw [hn] at h; exact h
    clear hx
    go_wp2_with fail
    go_quiet ((go_at_call 140; exact Calls.quiet_of_same (CN.out _)))
    obtain ⟨x0, x1, x2, x3, x4, y0, y1, y2, y3, y4, fx⟩ := HTw.out
    obtain ⟨X0, X1, X2, X3, X4, Y0, Y1, Y2, Y3, Y4, FX⟩ := HTw.out.drewN nq
    go_wp2
    refine bodyPost_ret (v := .tuple #[.agg #[.int .i64 _, .string ⟨#[]⟩, .string a, .slice (some ⟨g, off + 1, none⟩) zs.length (c - 1), .string ⟨#[]⟩], .bool false]) (by simp [results, Tryz.results171, go_sem, X0, X1, X2, X3, X4]; rfl) rfl ?_
    exact made_no (args := zs) (below_ret (HB.out.trans (below_drewN (Below.refl _ _) nq)) _ _ _ _ _) (by omega) (strs_ret (HD.out.below (HB.out.trans (below_drewN (Below.refl _ _) nq))) hws _ _ _ _ _) HN.out (by simp)
   | true =>
    have CN : Hid (∀ W : World, Calls Tryz.prog 140 #[.string x] W fun e w' => e = .returned (.bool true) ∧ w' = W) := fun W => by
     have h := l1NameOk_any x W (by omega)
     rw [hn] at h; exact h
    cases hh : hasB (zs.take k) x with
    | true =>
     have HN : Hid (readP ((1 : Nat) : Int) (a :: zs) = none) := HNo.out k hlt (.inr ⟨hlt, by rw [← hx]; exact hh⟩)
     have CH : Hid (∀ n : Nat, Calls Tryz.prog 141 #[.slice (some ⟨g, off + 1, none⟩) k (c - 1), .string x] (wr.drewN n) fun e w' => e = .returned (.bool true) ∧ w' = wr.drewN n) := fun n => by
      have h := l1Has_n (some ⟨g, off + 1, none⟩) (c - 1) k (zs.take k) x w.heap.size (wr.drewN n) HK.out HK2.out ((HT.out.below HB.out).below (below_drewN (Below.refl _ _) n))
      rw [hh] at h; exact h
     clear hx
     go_wp2_with fail
     go_quiet ((first | (go_at_call 140; exact Calls.quiet_of_same (CN.out _)) | (go_at_call 141; exact Calls.quiet_of_same (CH.out _))))
     obtain ⟨x0, x1, x2, x3, x4, y0, y1, y2, y3, y4, fx⟩ := HTw.out
     obtain ⟨X0, X1, X2, X3, X4, Y0, Y1, Y2, Y3, Y4, FX⟩ := HTw.out.drewN nq
     go_wp2
     refine bodyPost_ret (v := .tuple #[.agg #[.int .i64 _, .string ⟨#[]⟩, .string a, .slice (some ⟨g, off + 1, none⟩) zs.length (c - 1), .string ⟨#[]⟩], .bool false]) (by simp [results, Tryz.results171, go_sem, X0, X1, X2, X3, X4]; rfl) rfl ?_
     exact made_no (args := zs) (below_ret (HB.out.trans (below_drewN (Below.refl _ _) nq)) _ _ _ _ _) (by omega) (strs_ret (HD.out.below (HB.out.trans (below_drewN (Below.refl _ _) nq))) hws _ _ _ _ _) HN.out (by simp)
    | false =>
     have HA2 : Hid (allB nameB (zs.take (k + 1)) = true) := by show _ = _; rw [allB_snoc _ _ _ hlt, HA.out, ← hx, hn]; rfl
     have HR2 : Hid (repTo zs (k + 1) = false) := by show _ = _; rw [repTo_succ _ _ hlt, HR.out, ← hx, hh]; rfl
     have CH : Hid (∀ n : Nat, Calls Tryz.prog 141 #[.slice (some ⟨g, off + 1, none⟩) k (c - 1), .string x] (wr.drewN n) fun e w' => e = .returned (.bool false) ∧ w' = wr.drewN n) := fun n => by
      have h := l1Has_n (some ⟨g, off + 1, none⟩) (c - 1) k (zs.take k) x w.heap.size (wr.drewN n) HK.out HK2.out ((HT.out.below HB.out).below (below_drewN (Below.refl _ _) n))
      rw [hh] at h; exact h
     clear hx
     go_wp2_with fail
     go_quiet ((first | (go_at_call 140; exact Calls.quiet_of_same (CN.out _)) | (go_at_call 141; exact Calls.quiet_of_same (CH.out _))))
     go_wp2_with fail
     go_roundw
     case rel => exact ⟨k + 1, by omega, by go_num, HA2, HR2, HB.out.trans (below_drewN (Below.refl _ _) nq), HTw.out.drewN nq⟩
     case measure => simp [intOf]; omega
  ·have HN : Hid (readP ((1 : Nat) : Int) (a :: zs) = some ⟨eS, a, zs, eS⟩) := by
    have e : k = zs.length := by omega
    refine HYes.out ?_ (by rw [← e]; exact HR.out)
    have := HA.out
    rw [e, List.take_length] at this; exact this
   obtain ⟨x0, x1, x2, x3, x4, y0, y1, y2, y3, y4, fx⟩ := HTw.out
   go_wp2
   refine bodyPost_ret (v := .tuple #[.agg #[.int .i64 _, .string ⟨#[]⟩, .string a, .slice (some ⟨g, off + 1, none⟩) zs.length (c - 1), .string ⟨#[]⟩], .bool true]) (by simp [results, Tryz.results171, go_sem, x0, x1, x2, x3, x4]; rfl) rfl ?_
   exact made_yes (args := zs) (below_ret HB.out _ _ _ _ _) (by omega) (strs_ret (HD.out.below HB.out) hws _ _ _ _ _) HN.out (by simp)
theorem l1Made_head_one (g off : Nat) (a : ByteArray) (w : World) (hz : ∀ s ∈ [a], s.size ≤ 4398046511104) (hi : StrsAt 0 w.heap.size w (some ⟨g, off, none⟩) [a]) (ha : nameB a = true) :
  Calls Tryz.prog 171 #[.int .i64 (1 : Nat), .slice (some ⟨g, off, none⟩) 1 1] w (MadeE w (1 : Nat) [a]) := by
 have HN : Hid (readP ((1 : Nat) : Int) [a] = some ⟨eS, a, [], eS⟩) := by
  show pHead [a] = _
  rw [pHead]; exact if_pos ⟨by decide, by rw [allB_cons, ha]; rfl, rfl⟩
 have za := hz a (by simp)
 obtain ⟨_, _, e0, hB, k0⟩ := hi.at 0 (by simp)
 cases e0
 have c0 : w.cell? ⟨g, off, none⟩ = some (.string a) := k0
 have hb0 : g < w.heap.size := hB.2
 clear hi hz k0
 go_enter Tryz.func171, Tryz.ntmps171
 go_wp2_with (go_at_call 140; refine (l1NameOk_any a _ (by omega)).mono ?_; rintro e wx ⟨rfl, rfl⟩; rw [ha])
 go_loop [8] (fun i => i = .int .i64 1) (fun _ => 0)
 case atStart => rfl
 case round =>
  subst hrel
  go_wp2
  refine bodyPost_ret (v := .tuple #[.agg #[.int .i64 _, .string ⟨#[]⟩, .string a, .slice (some ⟨g, off, none⟩) 0 0, .string ⟨#[]⟩], .bool true]) (by simp [results, Tryz.results171, go_sem]; rfl) rfl ?_
  exact made_yes (args := []) (below_two _ _ _) (Nat.le_refl _) (StrsAt.nil _ _ _ _) HN.out (Nat.zero_le _)
theorem l1Made_head (ao : Option Addr) (c : Nat) (ws : List ByteArray) (w : World) (hl : ws.length ≤ 4398046511000) (hc : ws.length ≤ c) (hz : ∀ s ∈ ws, s.size ≤ 4398046511104) (hi : StrsAt 0 w.heap.size w ao ws) :
  Calls Tryz.prog 171 #[.int .i64 (1 : Nat), .slice ao ws.length c] w (MadeE w (1 : Nat) ws) := by
 by_cases h4 : ws.length < 1 ∨ 4 < ws.length
 ·exact l1Made_head_len ao c ws w h4 hl
 match ws, h4, hl, hc, hz, hi with
 | [], h4, _, _, _, _ => exact absurd (.inl (by simp)) h4
 | a :: zs, h4, hl, hc, hz, hi =>
  obtain ⟨g, off, rfl, _⟩ := hi.at 0 (by simp)
  have h3 : zs.length ≤ 3 := by
   have : ¬ 4 < (a :: zs).length := fun h => h4 (.inr h)
   simp at this; omega
  rw [List.length_cons] at hc ⊢
  cases ha : nameB a with
  | false => exact l1Made_head_a g off c a zs w h3 hz hi ha
  | true =>
   by_cases hc1 : c = 1
   ·have e0 : zs = [] := List.length_eq_zero_iff.1 (by omega)
    subst e0
    subst hc1
    exact l1Made_head_one g off a w hz hi ha
   ·exact l1Made_head_loop g off c a zs w h3 hc hc1 hz hi ha
end
section
open Go.RowKit
def stC (s : Stp) (u : Value) : List Value := [.int .i64 s.code, .string s.to, .string s.name, u, .string s.undo, .int .i64 s.a, .int .i64 s.b]
def stA (s : Stp) : List ByteArray := s.args
abbrev OwnStp := OwnSt 52 7 stC stA
def StepAt (B : Nat) (w : World) (b o : Nat) (s : Stp) : Prop :=
 ∃ ao cap, s.args.length ≤ cap ∧ w.cell? ⟨b, o, none⟩ = some (.int .i64 s.code) ∧ w.cell? ⟨b, o + 1, none⟩ = some (.string s.to) ∧ w.cell? ⟨b, o + 2, none⟩ = some (.string s.name) ∧ w.cell? ⟨b, o + 3, none⟩ = some (.slice ao s.args.length cap) ∧ w.cell? ⟨b, o + 4, none⟩ = some (.string s.undo) ∧ w.cell? ⟨b, o + 5, none⟩ = some (.int .i64 s.a) ∧ w.cell? ⟨b, o + 6, none⟩ = some (.int .i64 s.b) ∧ StrsAt 0 B w ao s.args
def StepsAt (B : Nat) (w : World) (ao : Option Addr) (ss : List Stp) : Prop :=
 ∀ k (h : k < ss.length), ∃ b off, ao = some ⟨b, off, none⟩ ∧ b < B ∧ StepAt B w b (off + k * 7) ss[k]
section
variable {B B' : Nat} {w w' : World} {b o : Nat} {s : Stp} {ao : Option Addr} {ss : List Stp}
theorem StepAt.below (h : StepAt B w b o s) (hb : Below B w w') (hB : b < B) : StepAt B w' b o s := by
 obtain ⟨ao, cap, h0, h1, h2, h3, h4, h5, h6, h7, h8⟩ := h
 have hc := fun j => hb.cell (p := ⟨b, j, none⟩) hB
 exact ⟨ao, cap, h0, (hc _).trans h1, (hc _).trans h2, (hc _).trans h3, (hc _).trans h4, (hc _).trans h5, (hc _).trans h6, (hc _).trans h7, h8.below hb⟩
theorem StepAt.mono (h : StepAt B w b o s) (hB : B ≤ B') : StepAt B' w b o s := by
 obtain ⟨ao, cap, h0, h1, h2, h3, h4, h5, h6, h7, h8⟩ := h
 exact ⟨ao, cap, h0, h1, h2, h3, h4, h5, h6, h7, h8.mono (Nat.le_refl _) hB⟩
theorem StepsAt.below (h : StepsAt B w ao ss) (hb : Below B w w') : StepsAt B w' ao ss := by
 intro k hk
 obtain ⟨b, off, e, hB, hl⟩ := h k hk
 exact ⟨b, off, e, hB, hl.below hb hB⟩
theorem StepsAt.mono (h : StepsAt B w ao ss) (hB : B ≤ B') : StepsAt B' w ao ss := by
 intro k hk
 obtain ⟨b, off, e, hb, hl⟩ := h k hk
 exact ⟨b, off, e, Nat.lt_of_lt_of_le hb hB, hl.mono hB⟩
theorem StepsAt.later (h : StepsAt w.heap.size w ao ss) (hb : Below w.heap.size w w') : StepsAt w'.heap.size w' ao ss := (h.below hb).mono hb.size
theorem OwnSt.steps {base : Nat} {v : Value} {ps : List (Stp × Value)} (h : OwnStp base w v ps) : ∃ ao cap, v = .slice ao ps.length cap ∧ ps.length ≤ cap ∧ StepsAt w.heap.size w ao (ps.map (·.1)) := by
 obtain ⟨ao, cap, rfl, hc⟩ := own_form h.row
 refine ⟨ao, cap, rfl, hc, fun k hk => ?_⟩
 have hk' : k < ps.length := by simpa using hk
 rcases h.row.2 with ⟨_, h0⟩ | ⟨g, cap', cur, e, hb, hg, _⟩
 ·omega
 ·simp only [Value.slice.injEq] at e
  obtain ⟨rfl, _, rfl⟩ := e
  have hargs := h.args _ (List.getElem_mem hk')
  obtain ⟨bo, bc, e2, hbc, hs⟩ := StrsAt.of_owns hargs
  have hcell := fun j hj u hu => h.cell (fun _ _ => rfl) rfl k j hk' hj u hu
  refine ⟨g, 0, rfl, (h.row.lt g rfl).2, bo, bc, ?_, ?_, ?_, ?_, ?_, ?_, ?_, ?_, ?_⟩
  ·simpa [stA] using hbc
  ·rw [Nat.zero_add]; simpa using hcell 0 (by decide) _ rfl
  ·rw [Nat.zero_add]; simpa using hcell 1 (by decide) _ rfl
  ·rw [Nat.zero_add]; simpa using hcell 2 (by decide) _ rfl
  ·rw [Nat.zero_add]; have := hcell 3 (by decide) _ rfl; rw [this]; simp only [List.getElem_map]; exact congrArg some e2
  ·rw [Nat.zero_add]; simpa using hcell 4 (by decide) _ rfl
  ·rw [Nat.zero_add]; simpa using hcell 5 (by decide) _ rfl
  ·rw [Nat.zero_add]; simpa using hcell 6 (by decide) _ rfl
  ·rw [List.getElem_map]; exact hs.mono (Nat.zero_le _) (Nat.le_refl _)
end
def eqSt (l m : Stp) : Bool := (l.code == m.code) && ((l.to.toList == m.to.toList) && ((l.name.toList == m.name.toList) && (decide (l.args = m.args) && ((l.undo.toList == m.undo.toList) && ((l.a == m.a) && (l.b == m.b))))))
theorem eqSt_iff (l m : Stp) : eqSt l m = true ↔ l = m := by
 obtain ⟨k, a, b, c, d, e, f⟩ := l
 obtain ⟨k', a', b', c', d', e', f'⟩ := m
 simp only [eqSt, beq_toList, Bool.and_eq_true, beq_iff_eq, decide_eq_true_eq, Stp.mk.injEq]
end
section
open Go.RowKit
theorem boxes7 {w w1 : World} {a0 a1 a2 a3 a4 a5 a6 b0 b1 b2 b3 b4 b5 b6 : Value} {s t : TypeId} (h : Below ((w.alloc (.cells #[a0, a1, a2, a3, a4, a5, a6] s)).alloc (.cells #[b0, b1, b2, b3, b4, b5, b6] t)).heap.size ((w.alloc (.cells #[a0, a1, a2, a3, a4, a5, a6] s)).alloc (.cells #[b0, b1, b2, b3, b4, b5, b6] t)) w1) :
  Hid (Below w.heap.size w w1) ∧ (w1.cell? ⟨w.heap.size, 4, none⟩ = some a4 ∧ w1.cell? ⟨w.heap.size, 5, none⟩ = some a5 ∧ w1.cell? ⟨w.heap.size, 6, none⟩ = some a6) ∧ (w1.cell? ⟨w.heap.size + 1, 4, none⟩ = some b4 ∧ w1.cell? ⟨w.heap.size + 1, 5, none⟩ = some b5 ∧ w1.cell? ⟨w.heap.size + 1, 6, none⟩ = some b6) := by
 have hc0 := fun j => h.cell (p := ⟨w.heap.size, j, none⟩) (by simp; omega)
 have hc1 := fun j => h.cell (p := ⟨w.heap.size + 1, j, none⟩) (by simp)
 refine ⟨(((Below.refl _ _).alloc (Nat.le_refl _) _).alloc (by simp) _).trans (h.mono (by simp; omega)), ⟨?_, ?_, ?_⟩, ⟨?_, ?_, ?_⟩⟩
 all_goals first | (rw [hc0]; simp; done) | (rw [hc1]; simp; done)
theorem eqFlowStep_any (l m : Stp) (ao bo : Option Addr) (ca cb : Nat) (w : World) (hx : l.args.length ≤ 9223372036854775807) (hy : m.args.length ≤ 9223372036854775807) (ha : StrsAt 0 w.heap.size w ao l.args) (hb : StrsAt 0 w.heap.size w bo m.args) :
  Calls Tryz.prog 35 #[.agg #[.int .i64 l.code, .string l.to, .string l.name, .slice ao l.args.length ca, .string l.undo, .int .i64 l.a, .int .i64 l.b], .agg #[.int .i64 m.code, .string m.to, .string m.name, .slice bo m.args.length cb, .string m.undo, .int .i64 m.a, .int .i64 m.b]] w fun e w' => e = .returned (.bool (eqSt l m)) ∧ Below w.heap.size w w' := by
 have HA : Hid (StrsAt 0 w.heap.size w ao l.args) := ha
 have HB : Hid (StrsAt 0 w.heap.size w bo m.args) := hb
 clear ha hb
 have HW : Hid (∀ L L' : Obj, Below w.heap.size w ((w.alloc L).alloc L')) := fun L L' => ((Below.refl _ _).alloc (Nat.le_refl _) _).alloc (by simp) _
 cases q1 : (l.code == m.code) with
 | false =>
  have bq1 : (l.code != m.code) = true := by rw [bne, q1]; rfl
  go_enter Tryz.func35, Tryz.ntmps35
  go_wp2
  go_ret
  exact ⟨by simp only [eqSt, q1] <;> rfl, HW.out _ _⟩
 | true =>
  have bq1 : (l.code != m.code) = false := by rw [bne, q1]; rfl
  cases q2 : (l.to.toList == m.to.toList) with
  | false =>
   go_enter Tryz.func35, Tryz.ntmps35
   go_wp2
   go_ret
   exact ⟨by simp only [eqSt, q1, q2] <;> rfl, HW.out _ _⟩
  | true =>
   cases q3 : (l.name.toList == m.name.toList) with
   | false =>
    go_enter Tryz.func35, Tryz.ntmps35
    go_wp2
    go_ret
    exact ⟨by simp only [eqSt, q1, q2, q3] <;> rfl, HW.out _ _⟩
   | true =>
    cases q4 : (decide (l.args = m.args)) with
    | false =>
     go_enter Tryz.func35, Tryz.ntmps35
     go_wp2_with fail
     refine (eqStringS_any ao bo ca cb l.args m.args _ hx hy (HA.out.later (HW.out _ _)) (HB.out.later (HW.out _ _))).mono ?_
     rintro e w1 ⟨rfl, hb1⟩
     rw [q4]
     obtain ⟨HB1, ⟨r4, r5, r6⟩, ⟨s4, s5, s6⟩⟩ := boxes7 hb1
     clear hb1
     go_wp2
     go_ret
     exact ⟨by simp only [eqSt, q1, q2, q3, q4] <;> rfl, HB1.out⟩
    | true =>
     cases q5 : (l.undo.toList == m.undo.toList) with
     | false =>
      go_enter Tryz.func35, Tryz.ntmps35
      go_wp2_with fail
      refine (eqStringS_any ao bo ca cb l.args m.args _ hx hy (HA.out.later (HW.out _ _)) (HB.out.later (HW.out _ _))).mono ?_
      rintro e w1 ⟨rfl, hb1⟩
      rw [q4]
      obtain ⟨HB1, ⟨r4, r5, r6⟩, ⟨s4, s5, s6⟩⟩ := boxes7 hb1
      clear hb1
      go_wp2
      go_ret
      exact ⟨by simp only [eqSt, q1, q2, q3, q4, q5] <;> rfl, HB1.out⟩
     | true =>
      cases q6 : (l.a == m.a) with
      | false =>
       have bq6 : (l.a != m.a) = true := by rw [bne, q6]; rfl
       go_enter Tryz.func35, Tryz.ntmps35
       go_wp2_with fail
       refine (eqStringS_any ao bo ca cb l.args m.args _ hx hy (HA.out.later (HW.out _ _)) (HB.out.later (HW.out _ _))).mono ?_
       rintro e w1 ⟨rfl, hb1⟩
       rw [q4]
       obtain ⟨HB1, ⟨r4, r5, r6⟩, ⟨s4, s5, s6⟩⟩ := boxes7 hb1
       clear hb1
       go_wp2
       go_ret
       exact ⟨by simp only [eqSt, q1, q2, q3, q4, q5, q6] <;> rfl, HB1.out⟩
      | true =>
       have bq6 : (l.a != m.a) = false := by rw [bne, q6]; rfl
       cases q7 : (l.b == m.b) with
       | false =>
        have bq7 : (l.b != m.b) = true := by rw [bne, q7]; rfl
        go_enter Tryz.func35, Tryz.ntmps35
        go_wp2_with fail
        refine (eqStringS_any ao bo ca cb l.args m.args _ hx hy (HA.out.later (HW.out _ _)) (HB.out.later (HW.out _ _))).mono ?_
        rintro e w1 ⟨rfl, hb1⟩
        rw [q4]
        obtain ⟨HB1, ⟨r4, r5, r6⟩, ⟨s4, s5, s6⟩⟩ := boxes7 hb1
        clear hb1
        go_wp2
        go_ret
        exact ⟨by simp only [eqSt, q1, q2, q3, q4, q5, q6, q7] <;> rfl, HB1.out⟩
       | true =>
        have bq7 : (l.b != m.b) = false := by rw [bne, q7]; rfl
        go_enter Tryz.func35, Tryz.ntmps35
        go_wp2_with fail
        refine (eqStringS_any ao bo ca cb l.args m.args _ hx hy (HA.out.later (HW.out _ _)) (HB.out.later (HW.out _ _))).mono ?_
        rintro e w1 ⟨rfl, hb1⟩
        rw [q4]
        obtain ⟨HB1, ⟨r4, r5, r6⟩, ⟨s4, s5, s6⟩⟩ := boxes7 hb1
        clear hb1
        go_wp2
        go_ret
        exact ⟨by simp only [eqSt, q1, q2, q3, q4, q5, q6, q7] <;> rfl, HB1.out⟩
theorem take_eq_snocS {xs ys : List Stp} {k : Nat} (hx : k < xs.length) (hy : k < ys.length) (h : xs.take k = ys.take k) (he : xs[k] = ys[k]) : xs.take (k + 1) = ys.take (k + 1) := by
 rw [List.take_succ_eq_append_getElem hx, List.take_succ_eq_append_getElem hy, h, he]
theorem eqFlowStepS_any (ao bo : Option Addr) (ca cb : Nat) (ls ms : List Stp) (w : World) (hx : ls.length ≤ 1048576) (hy : ms.length ≤ 1048576) (hzx : ∀ l ∈ ls, l.args.length ≤ 1048576) (hzy : ∀ l ∈ ms, l.args.length ≤ 1048576) (ha : StepsAt w.heap.size w ao ls) (hb : StepsAt w.heap.size w bo ms) :
  Calls Tryz.prog 13 #[.slice ao ls.length ca, .slice bo ms.length cb] w fun e w' => ∃ b : Bool, e = .returned (.bool b) ∧ (b = true ↔ ls = ms) ∧ Below w.heap.size w w' := by
 have HA : Hid (StepsAt w.heap.size w ao ls) := ha
 have HB : Hid (StepsAt w.heap.size w bo ms) := hb
 have HX : Hid (∀ l ∈ ls, l.args.length ≤ 1048576) := hzx
 have HY : Hid (∀ l ∈ ms, l.args.length ≤ 1048576) := hzy
 clear ha hb hzx hzy
 cases q5 : ((ls.length : Int) == (ms.length : Int)) with
 | false =>
  have b5 : ((ls.length : Int) != (ms.length : Int)) = true := by rw [bne, q5]; rfl
  have HQ : Hid (ls ≠ ms) := by intro e; rw [e] at q5; simp at q5
  go_enter Tryz.func13, Tryz.ntmps13
  go_wp2
  go_ret
  exact ⟨false, rfl, ⟨fun h => Bool.noConfusion h, fun h => absurd h HQ.out⟩, Below.refl _ _⟩
 | true =>
  have hlen : ls.length = ms.length := by have := eq_of_beq q5; omega
  have b5 : ((ls.length : Int) != (ms.length : Int)) = false := by rw [bne, q5]; rfl
  have HLEN : Hid (ls.length = ms.length) := hlen
  clear hlen
  go_enter Tryz.func13, Tryz.ntmps13
  go_wp2
  go_loopw [5] (fun i wr => ∃ n : Nat, n ≤ ls.length ∧ i = .int .i64 n ∧ Hid (ls.take n = ms.take n) ∧ Hid (Below w.heap.size w wr)) (fun i _ => ls.length - (intOf i).toNat)
  case atStart => exact ⟨0, Nat.zero_le _, rfl, rfl, Below.refl _ _⟩
  case round =>
   obtain ⟨n, hn, rfl, HT, HBW⟩ := hrel
   by_cases hlt : n < ls.length
   ·have hlt2 : n < ms.length := by rw [← HLEN.out]; exact hlt
    obtain ⟨b, off, rfl, hB, aoA, capA, hcA, q0, q1, q2, q3, q4, q5', q6, hA⟩ := HA.out n hlt
    obtain ⟨b2, off2, rfl, hB2, aoB, capB, hcB, p0, p1, p2, p3, p4, p5, p6, hBs⟩ := HB.out n hlt2
    have c0 := (HBW.out.cell (p := ⟨b, off + n * 7, none⟩) hB).trans q0
    have c1 := (HBW.out.cell (p := ⟨b, off + n * 7 + 1, none⟩) hB).trans q1
    have c2 := (HBW.out.cell (p := ⟨b, off + n * 7 + 2, none⟩) hB).trans q2
    have c3 := (HBW.out.cell (p := ⟨b, off + n * 7 + 3, none⟩) hB).trans q3
    have c4 := (HBW.out.cell (p := ⟨b, off + n * 7 + 4, none⟩) hB).trans q4
    have c5 := (HBW.out.cell (p := ⟨b, off + n * 7 + 5, none⟩) hB).trans q5'
    have c6 := (HBW.out.cell (p := ⟨b, off + n * 7 + 6, none⟩) hB).trans q6
    have d0 := (HBW.out.cell (p := ⟨b2, off2 + n * 7, none⟩) hB2).trans p0
    have d1 := (HBW.out.cell (p := ⟨b2, off2 + n * 7 + 1, none⟩) hB2).trans p1
    have d2 := (HBW.out.cell (p := ⟨b2, off2 + n * 7 + 2, none⟩) hB2).trans p2
    have d3 := (HBW.out.cell (p := ⟨b2, off2 + n * 7 + 3, none⟩) hB2).trans p3
    have d4 := (HBW.out.cell (p := ⟨b2, off2 + n * 7 + 4, none⟩) hB2).trans p4
    have d5 := (HBW.out.cell (p := ⟨b2, off2 + n * 7 + 5, none⟩) hB2).trans p5
    have d6 := (HBW.out.cell (p := ⟨b2, off2 + n * 7 + 6, none⟩) hB2).trans p6
    have HS1 : Hid (StrsAt 0 w.heap.size w aoA ls[n].args) := hA
    have HS2 : Hid (StrsAt 0 w.heap.size w aoB ms[n].args) := hBs
    have z1 := HX.out _ (List.getElem_mem hlt)
    have z2 := HY.out _ (List.getElem_mem hlt2)
    have hws := HBW.out.size
    clear q0 q1 q2 q3 q4 q5' q6 p0 p1 p2 p3 p4 p5 p6 hA hBs
    cases hq : eqSt ls[n] ms[n] with
    | true =>
     have HN : Hid (ls.take (n + 1) = ms.take (n + 1)) := take_eq_snocS hlt hlt2 HT.out ((eqSt_iff _ _).1 hq)
     go_wp2_with fail
     go_region_with (go_at_call 35; refine (eqFlowStep_any ls[n] ms[n] aoA aoB capA capB _ (by omega) (by omega) (HS1.out.later HBW.out.drew) (HS2.out.later HBW.out.drew)).mono ?_; rintro e w1 ⟨rfl, hb1⟩; rw [hq]; have HB1 : Hid (Below w.heap.size w w1) := HBW.out.drew.trans (hb1.mono hws); clear hb1)
     all_goals
      go_wp2
      go_roundw
      case rel => exact ⟨n + 1, by omega, by go_num, HN, HB1.out⟩
      case measure => simp [intOf]; omega
    | false =>
     have HQ : Hid (ls ≠ ms) := by
      intro e
      have : ls[n] = ms[n] := by simp only [e]
      rw [this, (eqSt_iff _ _).2 rfl] at hq
      exact Bool.noConfusion hq
     go_wp2_with fail
     go_region_with (go_at_call 35; refine (eqFlowStep_any ls[n] ms[n] aoA aoB capA capB _ (by omega) (by omega) (HS1.out.later HBW.out.drew) (HS2.out.later HBW.out.drew)).mono ?_; rintro e w1 ⟨rfl, hb1⟩; rw [hq]; have HB1 : Hid (Below w.heap.size w w1) := HBW.out.drew.trans (hb1.mono hws); clear hb1)
     all_goals
      go_wp2
      go_ret
      exact ⟨false, rfl, ⟨fun h => Bool.noConfusion h, fun h => absurd h HQ.out⟩, HB1.out⟩
   ·have HQ : Hid (ls = ms) := by
     have h3 := HT.out
     rw [List.take_of_length_le (by omega), List.take_of_length_le (by rw [← HLEN.out]; omega)] at h3
     exact h3
    go_wp2
    go_ret
    exact ⟨true, rfl, ⟨fun _ => HQ.out, fun _ => rfl⟩, HBW.out⟩
end
end Go.Proofs.YtlbjjbolbopfmaaGreatDoor
