import Derived.Test.YtlbjjbolbopfmaaGreatDoorJ28
import Derived.Test.YtlbjjbolbopfmaaGreatDoorJ29
import Derived.Test.YtlbjjbolbopfmaaGreatDoorJ30
import Derived.Test.YtlbjjbolbopfmaaGreatDoorJ31
import Derived.Test.YtlbjjbolbopfmaaGreatDoorJ32
import Derived.Test.YtlbjjbolbopfmaaGreatDoorJ00
import Derived.Deep.RegionHeld3
namespace Go.Proofs.YtlbjjbolbopfmaaGreatDoor
set_option maxHeartbeats 60000000
set_option maxRecDepth 1000000
set_option linter.unusedVariables false
section
open Go.RowKit
theorem z_jo (k : Nat) (hk : k = 6 ∨ k = 8) (ao : Option Addr) (c : Nat) (ws : List ByteArray) (w : World) (hl : ws.length ≤ 4398046511000) (hc : ws.length ≤ c) (hz : ∀ s ∈ ws, s.size ≤ 4398046511104) (hi : StrsAt 0 w.heap.size w ao ws) :
  Calls Tryz.prog 171 #[.int .i64 k, .slice ao ws.length c] w (z_bg w k ws) := by
 by_cases h3 : ws.length = 3
 ·obtain ⟨a, t, b, rfl⟩ := z_ji h3
  obtain ⟨g, off, rfl, _⟩ := hi.at 0 (by simp)
  cases ht : z_cC t with
  | false => exact z_hq k hk g off c a t b w hc hz hi ht
  | true =>
   cases ha : z_an a with
   | false => exact z_gs k hk g off c a t b w hc hz hi ht ha
   | true =>
    cases hb : z_an b with
    | false => exact z_hr k hk g off c a t b w hc hz hi ht ha hb
    | true =>
     rcases hk with hk | hk
     ·exact z_fP k hk g off c a t b w hc hz hi ht ha hb
     ·exact z_fO k hk g off c a t b w hc hz hi ht ha hb
 ·exact z_e1 k hk ao c ws w hl h3
end
section
open Go.RowKit
theorem z_jw (t : ByteArray) : hasB opsS t = ((t.toList == [105, 115]) || ((t.toList == [97, 100, 100]) || ((t.toList == [115, 117, 98]) || (t.toList == [109, 117, 108])))) := by
 have e : ∀ l : List UInt8, decide ((⟨l.toArray⟩ : ByteArray) = t) = (t.toList == l) := fun l => by
  rw [z_lQ]
  by_cases h : t = ⟨l.toArray⟩
  ·rw [decide_eq_true h, decide_eq_true h.symm]
  ·rw [decide_eq_false h, decide_eq_false (fun x => h x.symm)]
 have e1 := e [105, 115]
 have e2 := e [97, 100, 100]
 have e3 := e [115, 117, 98]
 have e4 := e [109, 117, 108]
 unfold hasB opsS
 simp only [List.any_cons, List.any_nil, Bool.or_false]
 rw [← e1, ← e2, ← e3, ← e4]
theorem z_nx {t : ByteArray} (h : hasB opsS t = false) : letN t = 0 := by
 rw [z_jw, Bool.or_eq_false_iff] at h
 unfold letN
 rw [h.1, h.2]; rfl
theorem z_jj {t : ByteArray} (h : (t.toList == [105, 115]) = true) : letN t = 1 := by unfold letN; rw [h]; rfl
theorem z_lf {t : ByteArray} (h : hasB opsS t = true) (hi : (t.toList == [105, 115]) = false) : letN t = 2 := by
 rw [z_jw, hi, Bool.false_or] at h
 unfold letN
 rw [hi, h]; rfl
theorem z_ka {t : ByteArray} (h : (t.toList == [105, 115]) = true) : hasB opsS t = true := by rw [z_jw, h]; rfl
theorem z_fU (ao : Option Addr) (c : Nat) (ws : List ByteArray) (w : World) (h3 : ws.length < 3) :
  Calls Tryz.prog 171 #[.int .i64 (2 : Nat), .slice ao ws.length c] w (z_bg w (2 : Nat) ws) := by
 have HN : Hid (z_af ((2 : Nat) : Int) ws = none) := by
  show pLet ws = _
  match ws, h3 with
  | [], _ => rfl
  | [_], _ => rfl
  | [_, _], _ => rfl
  | _ :: _ :: _ :: _, h => simp at h; omega
 have b3 : decide ((ws.length : Int) < 3) = true := by simp; omega
 clear h3
 go_enter Tryz.func171, Tryz.ntmps171
 go_wp2_with fail
 go_region
 all_goals
  go_wp2_with fail
  refine bodyPost_ret (v := .tuple #[.agg #[.int .i64 _, .string ⟨#[]⟩, .string ⟨#[]⟩, .slice none 0 0, .string ⟨#[]⟩], .bool false]) (by simp [results, Tryz.results171, go_sem]; rfl) rfl ?_
  exact z_aH (args := []) (z_ab _ _ _).drew (Nat.le_refl _) (StrsAt.nil _ _ _ _) HN.out (Nat.zero_le _)
end
section
open Go.RowKit
structure Two (g : Nat) (w : World) (x0 x1 x2 x3 x4 y0 y1 y2 y3 y4 : Value) : Prop where
 x0 : w.cell? ⟨g, 0, none⟩ = some x0
 x1 : w.cell? ⟨g, 1, none⟩ = some x1
 x2 : w.cell? ⟨g, 2, none⟩ = some x2
 x3 : w.cell? ⟨g, 3, none⟩ = some x3
 x4 : w.cell? ⟨g, 4, none⟩ = some x4
 y0 : w.cell? ⟨g + 1, 0, none⟩ = some y0
 y1 : w.cell? ⟨g + 1, 1, none⟩ = some y1
 y2 : w.cell? ⟨g + 1, 2, none⟩ = some y2
 y3 : w.cell? ⟨g + 1, 3, none⟩ = some y3
 y4 : w.cell? ⟨g + 1, 4, none⟩ = some y4
 fx : ∀ o, w.frozen? ⟨g, o, none⟩ = false
theorem Two.drewN {g : Nat} {w : World} {x0 x1 x2 x3 x4 y0 y1 y2 y3 y4 : Value} (h : Two g w x0 x1 x2 x3 x4 y0 y1 y2 y3 y4) (n : Nat) : Two g (w.drewN n) x0 x1 x2 x3 x4 y0 y1 y2 y3 y4 := ⟨h.x0, h.x1, h.x2, h.x3, h.x4, h.y0, h.y1, h.y2, h.y3, h.y4, h.fx⟩
theorem Two.new (w : World) (x0 x1 x2 x3 x4 y0 y1 y2 y3 y4 : Value) (t t' : TypeId) : Two w.heap.size ((w.alloc (.cells #[x0, x1, x2, x3, x4] t)).alloc (.cells #[y0, y1, y2, y3, y4] t')) x0 x1 x2 x3 x4 y0 y1 y2 y3 y4 := by
 constructor <;> simp [go_sem]
theorem z_h {w w1 : World} {ao : Option Addr} {ss : List ByteArray} (h : StrsAt 0 w.heap.size w1 ao ss) (hw : w.heap.size ≤ w1.heap.size) (v0 v1 v2 v3 v4 : Value) : StrsAt 0 (((((w1.setCell ⟨w.heap.size, 0, none⟩ v0).setCell ⟨w.heap.size, 1, none⟩ v1).setCell ⟨w.heap.size, 2, none⟩ v2).setCell ⟨w.heap.size, 3, none⟩ v3).setCell ⟨w.heap.size, 4, none⟩ v4).heap.size (((((w1.setCell ⟨w.heap.size, 0, none⟩ v0).setCell ⟨w.heap.size, 1, none⟩ v1).setCell ⟨w.heap.size, 2, none⟩ v2).setCell ⟨w.heap.size, 3, none⟩ v3).setCell ⟨w.heap.size, 4, none⟩ v4) ao ss :=
 (((((h.setCell (p := ⟨w.heap.size, 0, none⟩) (.inr (Nat.le_refl _)) v0).setCell (p := ⟨w.heap.size, 1, none⟩) (.inr (Nat.le_refl _)) v1).setCell (p := ⟨w.heap.size, 2, none⟩) (.inr (Nat.le_refl _)) v2).setCell (p := ⟨w.heap.size, 3, none⟩) (.inr (Nat.le_refl _)) v3).setCell (p := ⟨w.heap.size, 4, none⟩) (.inr (Nat.le_refl _)) v4).mono (Nat.le_refl _) (by simpa [World.setCell] using hw)
theorem z_mh (ao : Option Addr) (cap n : Nat) (ss : List ByteArray) (s : ByteArray) (B : Nat) (w : World) (hn : n = ss.length) (hl : ss.length ≤ 9223372036854775807) (hi : StrsAt 0 B w ao ss) :
  Calls Tryz.prog 141 #[.slice ao n cap, .string s] w fun e w' => e = .returned (.bool (hasB ss s)) ∧ w' = w := by
 subst hn; exact z_aF ao cap ss s B w hl hi
theorem z_gG {a : ByteArray} {zs : List ByteArray} (h : ¬ (zs.length ≤ 3 ∧ allB z_ac (a :: zs) = true ∧ z_cB zs zs.length = false)) : z_af ((1 : Nat) : Int) (a :: zs) = none := by
 show pHead (a :: zs) = none
 rw [pHead]; exact if_neg h
theorem z_f (ao : Option Addr) (c : Nat) (ws : List ByteArray) (w : World) (h4 : ws.length < 1 ∨ 4 < ws.length) (hl : ws.length ≤ 4398046511000) :
  Calls Tryz.prog 171 #[.int .i64 (1 : Nat), .slice ao ws.length c] w (z_bg w (1 : Nat) ws) := by
 have HN : Hid (z_af ((1 : Nat) : Int) ws = none) := by
  match ws, h4 with
  | [], _ => rfl
  | a :: zs, h => exact z_gG (fun h2 => by have := h2.1; simp at h; omega)
 rcases h4 with h4 | h4
 ·have q1 : (ws.length : Int) < 1 := by omega
  clear h4
  go_enter Tryz.func171, Tryz.ntmps171
  go_wp2
  refine bodyPost_ret (v := .tuple #[.agg #[.int .i64 _, .string ⟨#[]⟩, .string ⟨#[]⟩, .slice none 0 0, .string ⟨#[]⟩], .bool false]) (by simp [results, Tryz.results171, go_sem]; rfl) rfl ?_
  exact z_aH (args := []) (z_ab _ _ _) (Nat.le_refl _) (StrsAt.nil _ _ _ _) HN.out (Nat.zero_le _)
 ·have q1 : ¬ (ws.length : Int) < 1 := by omega
  have q4 : (4 : Int) < ws.length := by omega
  clear h4
  go_enter Tryz.func171, Tryz.ntmps171
  go_wp2
  refine bodyPost_ret (v := .tuple #[.agg #[.int .i64 _, .string ⟨#[]⟩, .string ⟨#[]⟩, .slice none 0 0, .string ⟨#[]⟩], .bool false]) (by simp [results, Tryz.results171, go_sem]; rfl) rfl ?_
  exact z_aH (args := []) (z_ab _ _ _) (Nat.le_refl _) (StrsAt.nil _ _ _ _) HN.out (Nat.zero_le _)
theorem z_go (g off c : Nat) (a : ByteArray) (zs : List ByteArray) (w : World) (h4 : zs.length ≤ 3) (hz : ∀ s ∈ a :: zs, s.size ≤ 4398046511104) (hi : StrsAt 0 w.heap.size w (some ⟨g, off, none⟩) (a :: zs)) (ha : z_ac a = false) :
  Calls Tryz.prog 171 #[.int .i64 (1 : Nat), .slice (some ⟨g, off, none⟩) (zs.length + 1) c] w (z_bg w (1 : Nat) (a :: zs)) := by
 have HN : Hid (z_af ((1 : Nat) : Int) (a :: zs) = none) := z_gG (fun h => by have := h.2.1; rw [z_c6, ha] at this; exact Bool.noConfusion this)
 have q1 : ¬ (zs.length : Int) + 1 < 1 := by omega
 have q4 : ¬ (4 : Int) < zs.length + 1 := by omega
 have za := hz a (by simp)
 obtain ⟨_, _, e0, hB, k0⟩ := hi.at 0 (by simp)
 cases e0
 have c0 : w.cell? ⟨g, off, none⟩ = some (.string a) := k0
 have hb0 : g < w.heap.size := hB.2
 clear hi hz k0
 go_enter Tryz.func171, Tryz.ntmps171
 go_wp2_with (go_at_call 140; refine (z_a a _ (by omega)).mono ?_; rintro e wx ⟨rfl, rfl⟩; rw [ha])
 refine bodyPost_ret (v := .tuple #[.agg #[.int .i64 _, .string ⟨#[]⟩, .string ⟨#[]⟩, .slice none 0 0, .string ⟨#[]⟩], .bool false]) (by simp [results, Tryz.results171, go_sem]; rfl) rfl ?_
 exact z_aH (args := []) (z_ab _ _ _) (Nat.le_refl _) (StrsAt.nil _ _ _ _) HN.out (Nat.zero_le _)
theorem z_ez (g off c : Nat) (a : ByteArray) (zs : List ByteArray) (w : World) (h4 : zs.length ≤ 3) (hc : zs.length + 1 ≤ c) (hc1 : ¬ c = 1) (hz : ∀ s ∈ a :: zs, s.size ≤ 4398046511104) (hi : StrsAt 0 w.heap.size w (some ⟨g, off, none⟩) (a :: zs)) (ha : z_ac a = true) :
  Calls Tryz.prog 171 #[.int .i64 (1 : Nat), .slice (some ⟨g, off, none⟩) (zs.length + 1) c] w (z_bg w (1 : Nat) (a :: zs)) := by
 have HNo : Hid (∀ k, k < zs.length → ((∃ h : k < zs.length, z_ac zs[k] = false) ∨ (∃ h : k < zs.length, hasB (zs.take k) zs[k] = true)) → z_af ((1 : Nat) : Int) (a :: zs) = none) := by
  intro k hk hh
  refine z_gG fun h => ?_
  rcases hh with ⟨h1, hh⟩ | ⟨h1, hh⟩
  ·have := z_fh z_ac zs k h1 hh
   have h2 := h.2.1
   rw [z_c6, this, Bool.and_false] at h2
   exact Bool.noConfusion h2
  ·rw [z_eY zs k zs.length h1 h1 hh] at h
   exact Bool.noConfusion h.2.2
 have HYes : Hid (allB z_ac zs = true → z_cB zs zs.length = false → z_af ((1 : Nat) : Int) (a :: zs) = some ⟨eS, a, zs, eS⟩) := fun h1 h2 => by
  show pHead (a :: zs) = _
  rw [pHead]; exact if_pos ⟨h4, by rw [z_c6, ha, h1]; rfl, h2⟩
 have q1 : ¬ (zs.length : Int) + 1 < 1 := by omega
 have q4 : ¬ (4 : Int) < zs.length + 1 := by omega
 have za := hz a (by simp)
 have HZ : Hid (∀ s ∈ a :: zs, s.size ≤ 4398046511104) := hz
 have HI : Hid (StrsAt 0 w.heap.size w (some ⟨g, off, none⟩) (a :: zs)) := hi
 have HD : Hid (StrsAt 0 w.heap.size w (some ⟨g, off + 1, none⟩) zs) := hi.drop 1
 obtain ⟨_, _, e0, hB, k0⟩ := hi.at 0 (by simp)
 cases e0
 have c0 : w.cell? ⟨g, off, none⟩ = some (.string a) := k0
 have hb0 : g < w.heap.size := hB.2
 clear hi hz k0
 go_enter Tryz.func171, Tryz.ntmps171
 go_wp2_with (go_at_call 140; refine (z_a a _ (by omega)).mono ?_; rintro e wx ⟨rfl, rfl⟩; rw [ha])
 go_loopw [8] (fun i wr => ∃ k : Nat, k ≤ zs.length ∧ i = .int .i64 (k + 1 : Nat) ∧ Hid (allB z_ac (zs.take k) = true) ∧ Hid (z_cB zs k = false) ∧ Hid (Below w.heap.size w wr) ∧ Hid (Two w.heap.size wr (.int .i64 0) (.string ⟨#[]⟩) (.string ⟨#[]⟩) (.slice none 0 0) (.string ⟨#[]⟩) (.int .i64 1) (.string ⟨#[]⟩) (.string a) (.slice (some ⟨g, off + 1, none⟩) zs.length (c - 1)) (.string ⟨#[]⟩))) (fun i _ => zs.length + 1 - (intOf i).toNat)
 case atStart => exact ⟨0, Nat.zero_le _, rfl, by simp [Hid, allB], by simp [Hid, z_cB], z_ab _ _ _, Two.new _ _ _ _ _ _ _ _ _ _ _ _ _⟩
 case round =>
  obtain ⟨k, hk, rfl, HA, HR, HB, HTw⟩ := hrel
  have hws := HB.out.size
  by_cases hlt : k < zs.length
  ·have ck : wr.cell? ⟨g, off + (k + 1), none⟩ = some (.string zs[k]) := by
    obtain ⟨_, _, e1, _, hc1⟩ := (HI.out.below HB.out).at (k + 1) (by simp; omega)
    cases e1
    simpa using hc1
   have zk := HZ.out zs[k] (by simp)
   have HT : Hid (StrsAt 0 w.heap.size w (some ⟨g, off + 1, none⟩) (zs.take k)) := HD.out.take k
   have HK : Hid (k = (zs.take k).length) := by show _ = _; simp; omega
   have HK2 : Hid ((zs.take k).length ≤ 9223372036854775807) := by show _ ≤ _; simp; omega
   obtain ⟨x, hx⟩ : ∃ x, x = zs[k] := ⟨_, rfl⟩
   rw [← hx] at ck zk
   have p1 : (k : Int) + 1 < zs.length + 1 := by omega
   have p2 : (0 : Int) ≤ (k : Int) + 1 := by omega
   cases hn : z_ac x with
   | false =>
    have HN : Hid (z_af ((1 : Nat) : Int) (a :: zs) = none) := HNo.out k hlt (.inl ⟨hlt, by rw [← hx]; exact hn⟩)
    have CN : Hid (∀ W : World, Calls Tryz.prog 140 #[.string x] W fun e w' => e = .returned (.bool false) ∧ w' = W) := fun W => by
     have h := z_a x W (by omega)
     rw [hn] at h; exact h
    clear hx
    go_wp2_with fail
    go_quiet ((go_at_call 140; exact Calls.quiet_of_same (CN.out _)))
    obtain ⟨x0, x1, x2, x3, x4, y0, y1, y2, y3, y4, fx⟩ := HTw.out
    obtain ⟨X0, X1, X2, X3, X4, Y0, Y1, Y2, Y3, Y4, FX⟩ := HTw.out.drewN nq
    go_wp2
    refine bodyPost_ret (v := .tuple #[.agg #[.int .i64 _, .string ⟨#[]⟩, .string a, .slice (some ⟨g, off + 1, none⟩) zs.length (c - 1), .string ⟨#[]⟩], .bool false]) (by simp [results, Tryz.results171, go_sem, X0, X1, X2, X3, X4]; rfl) rfl ?_
    exact z_aH (args := zs) (z_az (HB.out.trans (z_aa (Below.refl _ _) nq)) _ _ _ _ _) (by omega) (z_h (HD.out.below (HB.out.trans (z_aa (Below.refl _ _) nq))) hws _ _ _ _ _) HN.out (by simp)
   | true =>
    have CN : Hid (∀ W : World, Calls Tryz.prog 140 #[.string x] W fun e w' => e = .returned (.bool true) ∧ w' = W) := fun W => by
     have h := z_a x W (by omega)
     rw [hn] at h; exact h
    cases hh : hasB (zs.take k) x with
    | true =>
     have HN : Hid (z_af ((1 : Nat) : Int) (a :: zs) = none) := HNo.out k hlt (.inr ⟨hlt, by rw [← hx]; exact hh⟩)
     have CH : Hid (∀ n : Nat, Calls Tryz.prog 141 #[.slice (some ⟨g, off + 1, none⟩) k (c - 1), .string x] (wr.drewN n) fun e w' => e = .returned (.bool true) ∧ w' = wr.drewN n) := fun n => by
      have h := z_mh (some ⟨g, off + 1, none⟩) (c - 1) k (zs.take k) x w.heap.size (wr.drewN n) HK.out HK2.out ((HT.out.below HB.out).below (z_aa (Below.refl _ _) n))
      rw [hh] at h; exact h
     clear hx
     go_wp2_with fail
     go_quiet ((first | (go_at_call 140; exact Calls.quiet_of_same (CN.out _)) | (go_at_call 141; exact Calls.quiet_of_same (CH.out _))))
     obtain ⟨x0, x1, x2, x3, x4, y0, y1, y2, y3, y4, fx⟩ := HTw.out
     obtain ⟨X0, X1, X2, X3, X4, Y0, Y1, Y2, Y3, Y4, FX⟩ := HTw.out.drewN nq
     go_wp2
     refine bodyPost_ret (v := .tuple #[.agg #[.int .i64 _, .string ⟨#[]⟩, .string a, .slice (some ⟨g, off + 1, none⟩) zs.length (c - 1), .string ⟨#[]⟩], .bool false]) (by simp [results, Tryz.results171, go_sem, X0, X1, X2, X3, X4]; rfl) rfl ?_
     exact z_aH (args := zs) (z_az (HB.out.trans (z_aa (Below.refl _ _) nq)) _ _ _ _ _) (by omega) (z_h (HD.out.below (HB.out.trans (z_aa (Below.refl _ _) nq))) hws _ _ _ _ _) HN.out (by simp)
    | false =>
     have HA2 : Hid (allB z_ac (zs.take (k + 1)) = true) := by show _ = _; rw [z_c4 _ _ _ hlt, HA.out, ← hx, hn]; rfl
     have HR2 : Hid (z_cB zs (k + 1) = false) := by show _ = _; rw [z_gd _ _ hlt, HR.out, ← hx, hh]; rfl
     have CH : Hid (∀ n : Nat, Calls Tryz.prog 141 #[.slice (some ⟨g, off + 1, none⟩) k (c - 1), .string x] (wr.drewN n) fun e w' => e = .returned (.bool false) ∧ w' = wr.drewN n) := fun n => by
      have h := z_mh (some ⟨g, off + 1, none⟩) (c - 1) k (zs.take k) x w.heap.size (wr.drewN n) HK.out HK2.out ((HT.out.below HB.out).below (z_aa (Below.refl _ _) n))
      rw [hh] at h; exact h
     clear hx
     go_wp2_with fail
     go_quiet ((first | (go_at_call 140; exact Calls.quiet_of_same (CN.out _)) | (go_at_call 141; exact Calls.quiet_of_same (CH.out _))))
     go_wp2_with fail
     go_roundw
     case rel => exact ⟨k + 1, by omega, by go_num, HA2, HR2, HB.out.trans (z_aa (Below.refl _ _) nq), HTw.out.drewN nq⟩
     case measure => simp [intOf]; omega
  ·have HN : Hid (z_af ((1 : Nat) : Int) (a :: zs) = some ⟨eS, a, zs, eS⟩) := by
    have e : k = zs.length := by omega
    refine HYes.out ?_ (by rw [← e]; exact HR.out)
    have := HA.out
    rw [e, List.take_length] at this; exact this
   obtain ⟨x0, x1, x2, x3, x4, y0, y1, y2, y3, y4, fx⟩ := HTw.out
   go_wp2
   refine bodyPost_ret (v := .tuple #[.agg #[.int .i64 _, .string ⟨#[]⟩, .string a, .slice (some ⟨g, off + 1, none⟩) zs.length (c - 1), .string ⟨#[]⟩], .bool true]) (by simp [results, Tryz.results171, go_sem, x0, x1, x2, x3, x4]; rfl) rfl ?_
   exact z_bG (args := zs) (z_az HB.out _ _ _ _ _) (by omega) (z_h (HD.out.below HB.out) hws _ _ _ _ _) HN.out (by simp)
theorem z_fb (g off : Nat) (a : ByteArray) (w : World) (hz : ∀ s ∈ [a], s.size ≤ 4398046511104) (hi : StrsAt 0 w.heap.size w (some ⟨g, off, none⟩) [a]) (ha : z_ac a = true) :
  Calls Tryz.prog 171 #[.int .i64 (1 : Nat), .slice (some ⟨g, off, none⟩) 1 1] w (z_bg w (1 : Nat) [a]) := by
 have HN : Hid (z_af ((1 : Nat) : Int) [a] = some ⟨eS, a, [], eS⟩) := by
  show pHead [a] = _
  rw [pHead]; exact if_pos ⟨by decide, by rw [z_c6, ha]; rfl, rfl⟩
 have za := hz a (by simp)
 obtain ⟨_, _, e0, hB, k0⟩ := hi.at 0 (by simp)
 cases e0
 have c0 : w.cell? ⟨g, off, none⟩ = some (.string a) := k0
 have hb0 : g < w.heap.size := hB.2
 clear hi hz k0
 go_enter Tryz.func171, Tryz.ntmps171
 go_wp2_with (go_at_call 140; refine (z_a a _ (by omega)).mono ?_; rintro e wx ⟨rfl, rfl⟩; rw [ha])
 go_loop [8] (fun i => i = .int .i64 1) (fun _ => 0)
 case atStart => rfl
 case round =>
  subst hrel
  go_wp2
  refine bodyPost_ret (v := .tuple #[.agg #[.int .i64 _, .string ⟨#[]⟩, .string a, .slice (some ⟨g, off, none⟩) 0 0, .string ⟨#[]⟩], .bool true]) (by simp [results, Tryz.results171, go_sem]; rfl) rfl ?_
  exact z_bG (args := []) (z_ab _ _ _) (Nat.le_refl _) (StrsAt.nil _ _ _ _) HN.out (Nat.zero_le _)
theorem z_jb (ao : Option Addr) (c : Nat) (ws : List ByteArray) (w : World) (hl : ws.length ≤ 4398046511000) (hc : ws.length ≤ c) (hz : ∀ s ∈ ws, s.size ≤ 4398046511104) (hi : StrsAt 0 w.heap.size w ao ws) :
  Calls Tryz.prog 171 #[.int .i64 (1 : Nat), .slice ao ws.length c] w (z_bg w (1 : Nat) ws) := by
 by_cases h4 : ws.length < 1 ∨ 4 < ws.length
 ·exact z_f ao c ws w h4 hl
 match ws, h4, hl, hc, hz, hi with
 | [], h4, _, _, _, _ => exact absurd (.inl (by simp)) h4
 | a :: zs, h4, hl, hc, hz, hi =>
  obtain ⟨g, off, rfl, _⟩ := hi.at 0 (by simp)
  have h3 : zs.length ≤ 3 := by
   have : ¬ 4 < (a :: zs).length := fun h => h4 (.inr h)
   simp at this; omega
  rw [List.length_cons] at hc ⊢
  cases ha : z_ac a with
  | false => exact z_go g off c a zs w h3 hz hi ha
  | true =>
   by_cases hc1 : c = 1
   ·have e0 : zs = [] := List.length_eq_zero_iff.1 (by omega)
    subst e0
    subst hc1
    exact z_fb g off a w hz hi ha
   ·exact z_ez g off c a zs w h3 hc hc1 hz hi ha
end
section
open Go.RowKit
set_option linter.unusedSimpArgs false
theorem z_h9 (g off c : Nat) (a b x : ByteArray) (r : List ByteArray) (hl : r.length ≤ 4398046511000) (w : World) (hc : r.length + 3 ≤ c) (hz : ∀ s ∈ a :: b :: x :: r, s.size ≤ 4398046511104) (hi : StrsAt 0 w.heap.size w (some ⟨g, off, none⟩) (a :: b :: x :: r)) (ha : z_ac a = false) :
  Calls Tryz.prog 171 #[.int .i64 (2 : Nat), .slice (some ⟨g, off, none⟩) (r.length + 3) c] w (z_bg w (2 : Nat) (a :: b :: x :: r)) := by
 have HN : Hid (z_af ((2 : Nat) : Int) (a :: b :: x :: r) = none) := by show pLet (a :: b :: x :: r) = _; rw [pLet]; exact if_neg (by rw [ha]; exact fun h => Bool.noConfusion h.1)
 have za := hz a (by simp)
 obtain ⟨_, _, e0, hB, k0⟩ := hi.at 0 (by simp)
 cases e0
 have c0 : w.cell? ⟨g, off, none⟩ = some (.string a) := k0
 obtain ⟨_, _, e1, _, k1⟩ := hi.at 1 (by simp)
 cases e1
 have c1 : w.cell? ⟨g, off + 1, none⟩ = some (.string b) := k1
 have hb0 : g < w.heap.size := hB.2
 have p0 : (0 : Int) < r.length + 3 := by omega
 have p1 : (1 : Int) < r.length + 3 := by omega
 have q0 : decide ((r.length : Int) + 3 < 3) = false := by simp; omega
 clear hi hz k0 k1
 go_enter Tryz.func171, Tryz.ntmps171
 go_wp2_with fail
 refine wp_region_held_drew (S := (fun w' => w'.cell? ⟨g, off, none⟩ = some (.string a) ∧ w'.cell? ⟨g, off + 1, none⟩ = some (.string b))) (by kernel_rfl) ?_ (fun hHeld => ?_)
 ·try dsimp only
  first | assumption | (go_keep; done)
 refine tkL 0 ?_
 try simp only [Act.put, nA, nB, nC, nD, nE, nF]
 refine tkL 1 ?_
 try simp only [Act.put, nA, nB, nC, nD, nE, nF]
 refine tkL 2 ?_
 try simp only [Act.put, nA, nB, nC, nD, nE, nF]
 refine tkL 3 ?_
 try simp only [Act.put, nA, nB, nC, nD, nE, nF]
 refine tkL 4 ?_
 try simp only [Act.put, nA, nB, nC, nD, nE, nF]
 refine tkL 5 ?_
 try simp only [Act.put, nA, nB, nC, nD, nE, nF]
 refine wpAnyH_ready (rs := [6]) (by kernel_rfl) (by simp) ?_
 refine AllReadyH.cons rfl (fun K hK => ?_) AllReadyH.nil
 go_simp
 go_wp2_with (go_at_call 140; refine (z_a a _ (by omega)).mono ?_; rintro e wx ⟨rfl, rfl⟩; rw [ha])
 refine hK.out _ _ ?_ (fun hHeld => ?_)
 ·try dsimp only
  first | assumption | (go_keep; done)
 clear hK K
 try simp only [Act.put, nA, nB, nC, nD, nE, nF]
 refine tkL 7 ?_
 try simp only [Act.put, nA, nB, nC, nD, nE, nF]
 refine tkL 8 ?_
 try simp only [Act.put, nA, nB, nC, nD, nE, nF]
 refine tkL 9 ?_
 try simp only [Act.put, nA, nB, nC, nD, nE, nF]
 refine tkR 10 ?_
 try simp only [Act.put, nA, nB, nC, nD, nE, nF]
 refine tkR 11 ?_
 try simp only [Act.put, nA, nB, nC, nD, nE, nF]
 refine tkR 12 ?_
 try simp only [Act.put, nA, nB, nC, nD, nE, nF]
 refine tkR 13 ?_
 try simp only [Act.put, nA, nB, nC, nD, nE, nF]
 refine tkR 14 ?_
 try simp only [Act.put, nA, nB, nC, nD, nE, nF]
 refine tkR 15 ?_
 try simp only [Act.put, nA, nB, nC, nD, nE, nF]
 refine tkL 16 ?_
 try simp only [Act.put, nA, nB, nC, nD, nE, nF]
 refine tkL 17 ?_
 try simp only [Act.put, nA, nB, nC, nD, nE, nF]
 refine tkR 18 ?_
 try simp only [Act.put, nA, nB, nC, nD, nE, nF]
 refine tkR 19 ?_
 try simp only [Act.put, nA, nB, nC, nD, nE, nF]
 refine tkR 20 ?_
 try simp only [Act.put, nA, nB, nC, nD, nE, nF]
 refine tkR 21 ?_
 try simp only [Act.put, nA, nB, nC, nD, nE, nF]
 refine tkR 22 ?_
 try simp only [Act.put, nA, nB, nC, nD, nE, nF]
 refine tkR 23 ?_
 try simp only [Act.put, nA, nB, nC, nD, nE, nF]
 refine tkR 24 ?_
 try simp only [Act.put, nA, nB, nC, nD, nE, nF]
 refine tkR 25 ?_
 try simp only [Act.put, nA, nB, nC, nD, nE, nF]
 refine tkL 26 ?_
 try simp only [Act.put, nA, nB, nC, nD, nE, nF]
 refine tkL 27 ?_
 try simp only [Act.put, nA, nB, nC, nD, nE, nF]
 refine tkR 28 ?_
 try simp only [Act.put, nA, nB, nC, nD, nE, nF]
 refine tkR 29 ?_
 try simp only [Act.put, nA, nB, nC, nD, nE, nF]
 refine tkR 30 ?_
 try simp only [Act.put, nA, nB, nC, nD, nE, nF]
 refine tkR 31 ?_
 try simp only [Act.put, nA, nB, nC, nD, nE, nF]
 refine tkR 32 ?_
 try simp only [Act.put, nA, nB, nC, nD, nE, nF]
 refine tkR 33 ?_
 try simp only [Act.put, nA, nB, nC, nD, nE, nF]
 refine tkR 34 ?_
 try simp only [Act.put, nA, nB, nC, nD, nE, nF]
 refine tkR 35 ?_
 try simp only [Act.put, nA, nB, nC, nD, nE, nF]
 refine tkL 36 ?_
 try simp only [Act.put, nA, nB, nC, nD, nE, nF]
 refine tkL 37 ?_
 try simp only [Act.put, nA, nB, nC, nD, nE, nF]
 refine tkR 38 ?_
 try simp only [Act.put, nA, nB, nC, nD, nE, nF]
 refine tkR 39 ?_
 try simp only [Act.put, nA, nB, nC, nD, nE, nF]
 refine tkR 40 ?_
 try simp only [Act.put, nA, nB, nC, nD, nE, nF]
 refine tkR 41 ?_
 try simp only [Act.put, nA, nB, nC, nD, nE, nF]
 refine tkL 42 ?_
 try simp only [Act.put, nA, nB, nC, nD, nE, nF]
 refine wpAnyH_done (by kernel_rfl) ?_ _
 all_goals
  go_wp2_with fail
  refine bodyPost_ret (v := .tuple #[.agg #[.int .i64 _, .string ⟨#[]⟩, .string ⟨#[]⟩, .slice none 0 0, .string ⟨#[]⟩], .bool false]) (by simp [results, Tryz.results171, go_sem]; rfl) rfl ?_
  exact z_aH (args := []) (z_ab _ _ _).drew (Nat.le_refl _) (StrsAt.nil _ _ _ _) HN.out (Nat.zero_le _)
end
section
open Go.RowKit
set_option linter.unusedSimpArgs false
theorem z_ie (g off c : Nat) (a b x : ByteArray) (r : List ByteArray) (hl : r.length ≤ 4398046511000) (w : World) (hc : r.length + 3 ≤ c) (hz : ∀ s ∈ a :: b :: x :: r, s.size ≤ 4398046511104) (hi : StrsAt 0 w.heap.size w (some ⟨g, off, none⟩) (a :: b :: x :: r)) (ha : z_ac a = true) (hh : hasB opsS b = false) :
  Calls Tryz.prog 171 #[.int .i64 (2 : Nat), .slice (some ⟨g, off, none⟩) (r.length + 3) c] w (z_bg w (2 : Nat) (a :: b :: x :: r)) := by
 have HN : Hid (z_af ((2 : Nat) : Int) (a :: b :: x :: r) = none) := by show pLet (a :: b :: x :: r) = _; rw [pLet]; exact if_neg (by rw [z_nx hh]; exact fun h => by have := h.2.2; omega)
 have za := hz a (by simp)
 obtain ⟨_, _, e0, hB, k0⟩ := hi.at 0 (by simp)
 cases e0
 have c0 : w.cell? ⟨g, off, none⟩ = some (.string a) := k0
 obtain ⟨_, _, e1, _, k1⟩ := hi.at 1 (by simp)
 cases e1
 have c1 : w.cell? ⟨g, off + 1, none⟩ = some (.string b) := k1
 have hb0 : g < w.heap.size := hB.2
 have p0 : (0 : Int) < r.length + 3 := by omega
 have p1 : (1 : Int) < r.length + 3 := by omega
 have q0 : decide ((r.length : Int) + 3 < 3) = false := by simp; omega
 clear hi hz k0 k1
 go_enter Tryz.func171, Tryz.ntmps171
 go_wp2_with fail
 refine wp_region_held_drew (S := (fun w' => w'.cell? ⟨g, off, none⟩ = some (.string a) ∧ w'.cell? ⟨g, off + 1, none⟩ = some (.string b))) (by kernel_rfl) ?_ (fun hHeld => ?_)
 ·try dsimp only
  first | assumption | (go_keep; done)
 refine tkL 0 ?_
 try simp only [Act.put, nA, nB, nC, nD, nE, nF]
 refine tkL 1 ?_
 try simp only [Act.put, nA, nB, nC, nD, nE, nF]
 refine tkL 2 ?_
 try simp only [Act.put, nA, nB, nC, nD, nE, nF]
 refine tkL 3 ?_
 try simp only [Act.put, nA, nB, nC, nD, nE, nF]
 refine tkL 4 ?_
 try simp only [Act.put, nA, nB, nC, nD, nE, nF]
 refine tkL 5 ?_
 try simp only [Act.put, nA, nB, nC, nD, nE, nF]
 refine wpAnyH_ready (rs := [6]) (by kernel_rfl) (by simp) ?_
 refine AllReadyH.cons rfl (fun K hK => ?_) AllReadyH.nil
 go_simp
 go_wp2_with (go_at_call 140; refine (z_a a _ (by omega)).mono ?_; rintro e wx ⟨rfl, rfl⟩; rw [ha])
 refine hK.out _ _ ?_ (fun hHeld => ?_)
 ·try dsimp only
  first | assumption | (go_keep; done)
 clear hK K
 try simp only [Act.put, nA, nB, nC, nD, nE, nF]
 refine tkL 7 ?_
 try simp only [Act.put, nA, nB, nC, nD, nE, nF]
 refine tkL 8 ?_
 try simp only [Act.put, nA, nB, nC, nD, nE, nF]
 refine tkL 9 ?_
 try simp only [Act.put, nA, nB, nC, nD, nE, nF]
 refine tkL 11 ?_
 try simp only [Act.put, nA, nB, nC, nD, nE, nF]
 refine tkL 12 ?_
 try simp only [Act.put, nA, nB, nC, nD, nE, nF]
 refine tkL 13 ?_
 try simp only [Act.put, nA, nB, nC, nD, nE, nF]
 refine wpAnyH_ready (rs := [10]) (by kernel_rfl) (by simp) ?_
 refine AllReadyH.cons rfl (fun K hK => ?_) AllReadyH.nil
 go_simp
 go_wp2_with (go_at_call 196; refine (z_ca _).mono ?_; rintro e w1 ⟨rfl, hb1, hs1⟩; obtain ⟨HB1, HS1, ⟨hz1, hz2⟩, ⟨r0, r1, r2, r3, r4⟩, ⟨s0, s1, s2, s3, s4⟩, f0, f1⟩ := z_by hb1 hs1; have d0 := (HB1.out.cell (p := ⟨g, off, none⟩) hb0).trans c0; have d1 := (HB1.out.cell (p := ⟨g, off + 1, none⟩) hb0).trans c1; clear hb1 hs1)
 refine hK.out _ _ ?_ (fun hHeld => ?_)
 ·try dsimp only
  first | assumption | exact ⟨d0, d1⟩ | (go_keep; done)
 clear hK K
 try simp only [Act.put, nA, nB, nC, nD, nE, nF]
 refine wpAnyH_ready (rs := [14]) (by kernel_rfl) (by simp) ?_
 refine AllReadyH.cons rfl (fun K hK => ?_) AllReadyH.nil
 go_simp
 go_wp2_with (go_at_call 141; refine (z_aF _ 4 opsS b _ _ (by decide) HS1.out).mono ?_; rintro e w2 ⟨rfl, rfl⟩; rw [hh])
 refine hK.out _ _ ?_ (fun hHeld => ?_)
 ·try dsimp only
  first | assumption | exact ⟨d0, d1⟩ | (go_keep; done)
 clear hK K
 try simp only [Act.put, nA, nB, nC, nD, nE, nF]
 refine tkL 15 ?_
 try simp only [Act.put, nA, nB, nC, nD, nE, nF]
 refine tkL 16 ?_
 try simp only [Act.put, nA, nB, nC, nD, nE, nF]
 refine tkL 17 ?_
 try simp only [Act.put, nA, nB, nC, nD, nE, nF]
 refine tkR 18 ?_
 try simp only [Act.put, nA, nB, nC, nD, nE, nF]
 refine tkR 19 ?_
 try simp only [Act.put, nA, nB, nC, nD, nE, nF]
 refine tkR 20 ?_
 try simp only [Act.put, nA, nB, nC, nD, nE, nF]
 refine tkR 21 ?_
 try simp only [Act.put, nA, nB, nC, nD, nE, nF]
 refine tkR 22 ?_
 try simp only [Act.put, nA, nB, nC, nD, nE, nF]
 refine tkR 23 ?_
 try simp only [Act.put, nA, nB, nC, nD, nE, nF]
 refine tkR 24 ?_
 try simp only [Act.put, nA, nB, nC, nD, nE, nF]
 refine tkR 25 ?_
 try simp only [Act.put, nA, nB, nC, nD, nE, nF]
 refine tkL 26 ?_
 try simp only [Act.put, nA, nB, nC, nD, nE, nF]
 refine tkL 27 ?_
 try simp only [Act.put, nA, nB, nC, nD, nE, nF]
 refine tkR 28 ?_
 try simp only [Act.put, nA, nB, nC, nD, nE, nF]
 refine tkR 29 ?_
 try simp only [Act.put, nA, nB, nC, nD, nE, nF]
 refine tkR 30 ?_
 try simp only [Act.put, nA, nB, nC, nD, nE, nF]
 refine tkR 31 ?_
 try simp only [Act.put, nA, nB, nC, nD, nE, nF]
 refine tkR 32 ?_
 try simp only [Act.put, nA, nB, nC, nD, nE, nF]
 refine tkR 33 ?_
 try simp only [Act.put, nA, nB, nC, nD, nE, nF]
 refine tkR 34 ?_
 try simp only [Act.put, nA, nB, nC, nD, nE, nF]
 refine tkR 35 ?_
 try simp only [Act.put, nA, nB, nC, nD, nE, nF]
 refine tkL 36 ?_
 try simp only [Act.put, nA, nB, nC, nD, nE, nF]
 refine tkL 37 ?_
 try simp only [Act.put, nA, nB, nC, nD, nE, nF]
 refine tkR 38 ?_
 try simp only [Act.put, nA, nB, nC, nD, nE, nF]
 refine tkR 39 ?_
 try simp only [Act.put, nA, nB, nC, nD, nE, nF]
 refine tkR 40 ?_
 try simp only [Act.put, nA, nB, nC, nD, nE, nF]
 refine tkR 41 ?_
 try simp only [Act.put, nA, nB, nC, nD, nE, nF]
 refine tkL 42 ?_
 try simp only [Act.put, nA, nB, nC, nD, nE, nF]
 refine wpAnyH_done (by kernel_rfl) ?_ _
 all_goals
  go_wp2_with fail
  refine bodyPost_ret (v := .tuple #[.agg #[.int .i64 _, .string ⟨#[]⟩, .string ⟨#[]⟩, .slice none 0 0, .string ⟨#[]⟩], .bool false]) (by simp [results, Tryz.results171, go_sem, r0, r1, r2, r3, r4]; rfl) rfl ?_
  exact z_aH (args := []) (z_az HB1.out _ _ _ _ _) (Nat.le_refl _) (StrsAt.nil _ _ _ _) HN.out (Nat.zero_le _)
end
section
open Go.RowKit
set_option linter.unusedSimpArgs false
theorem z_hD (g off c : Nat) (a b x : ByteArray) (r : List ByteArray) (hl : r.length ≤ 4398046511000) (w : World) (hc : r.length + 3 ≤ c) (hz : ∀ s ∈ a :: b :: x :: r, s.size ≤ 4398046511104) (hi : StrsAt 0 w.heap.size w (some ⟨g, off, none⟩) (a :: b :: x :: r)) (ha : z_ac a = true) (hi2 : (b.toList == [105, 115]) = true) (hr : r.length ≠ 0) (q4 : ((r.length : Int) + 3 != 4) = false) :
  Calls Tryz.prog 171 #[.int .i64 (2 : Nat), .slice (some ⟨g, off, none⟩) (r.length + 3) c] w (z_bg w (2 : Nat) (a :: b :: x :: r)) := by
 have HN : Hid (z_af ((2 : Nat) : Int) (a :: b :: x :: r) = none) := by show pLet (a :: b :: x :: r) = _; rw [pLet]; exact if_neg (by rw [z_jj hi2]; exact fun h => by have := h.2.2; omega)
 have za := hz a (by simp)
 obtain ⟨_, _, e0, hB, k0⟩ := hi.at 0 (by simp)
 cases e0
 have c0 : w.cell? ⟨g, off, none⟩ = some (.string a) := k0
 obtain ⟨_, _, e1, _, k1⟩ := hi.at 1 (by simp)
 cases e1
 have c1 : w.cell? ⟨g, off + 1, none⟩ = some (.string b) := k1
 have hb0 : g < w.heap.size := hB.2
 have p0 : (0 : Int) < r.length + 3 := by omega
 have p1 : (1 : Int) < r.length + 3 := by omega
 have q0 : decide ((r.length : Int) + 3 < 3) = false := by simp; omega
 have hh := z_ka hi2
 have q3 : ((r.length : Int) + 3 != 3) = true := by simp; omega
 have hi3 : (b.toList != [105, 115]) = false := by rw [bne, hi2]; rfl
 clear hi hz k0 k1
 go_enter Tryz.func171, Tryz.ntmps171
 go_wp2_with fail
 refine wp_region_held_drew (S := (fun w' => w'.cell? ⟨g, off, none⟩ = some (.string a) ∧ w'.cell? ⟨g, off + 1, none⟩ = some (.string b))) (by kernel_rfl) ?_ (fun hHeld => ?_)
 ·try dsimp only
  first | assumption | (go_keep; done)
 refine tkL 0 ?_
 try simp only [Act.put, nA, nB, nC, nD, nE, nF]
 refine tkL 1 ?_
 try simp only [Act.put, nA, nB, nC, nD, nE, nF]
 refine tkL 2 ?_
 try simp only [Act.put, nA, nB, nC, nD, nE, nF]
 refine tkL 3 ?_
 try simp only [Act.put, nA, nB, nC, nD, nE, nF]
 refine tkL 4 ?_
 try simp only [Act.put, nA, nB, nC, nD, nE, nF]
 refine tkL 5 ?_
 try simp only [Act.put, nA, nB, nC, nD, nE, nF]
 refine wpAnyH_ready (rs := [6]) (by kernel_rfl) (by simp) ?_
 refine AllReadyH.cons rfl (fun K hK => ?_) AllReadyH.nil
 go_simp
 go_wp2_with (go_at_call 140; refine (z_a a _ (by omega)).mono ?_; rintro e wx ⟨rfl, rfl⟩; rw [ha])
 refine hK.out _ _ ?_ (fun hHeld => ?_)
 ·try dsimp only
  first | assumption | (go_keep; done)
 clear hK K
 try simp only [Act.put, nA, nB, nC, nD, nE, nF]
 refine tkL 7 ?_
 try simp only [Act.put, nA, nB, nC, nD, nE, nF]
 refine tkL 8 ?_
 try simp only [Act.put, nA, nB, nC, nD, nE, nF]
 refine tkL 9 ?_
 try simp only [Act.put, nA, nB, nC, nD, nE, nF]
 refine tkL 11 ?_
 try simp only [Act.put, nA, nB, nC, nD, nE, nF]
 refine tkL 12 ?_
 try simp only [Act.put, nA, nB, nC, nD, nE, nF]
 refine tkL 13 ?_
 try simp only [Act.put, nA, nB, nC, nD, nE, nF]
 refine wpAnyH_ready (rs := [10]) (by kernel_rfl) (by simp) ?_
 refine AllReadyH.cons rfl (fun K hK => ?_) AllReadyH.nil
 go_simp
 go_wp2_with (go_at_call 196; refine (z_ca _).mono ?_; rintro e w1 ⟨rfl, hb1, hs1⟩; obtain ⟨HB1, HS1, ⟨hz1, hz2⟩, ⟨r0, r1, r2, r3, r4⟩, ⟨s0, s1, s2, s3, s4⟩, f0, f1⟩ := z_by hb1 hs1; have d0 := (HB1.out.cell (p := ⟨g, off, none⟩) hb0).trans c0; have d1 := (HB1.out.cell (p := ⟨g, off + 1, none⟩) hb0).trans c1; clear hb1 hs1)
 refine hK.out _ _ ?_ (fun hHeld => ?_)
 ·try dsimp only
  first | assumption | exact ⟨d0, d1⟩ | (go_keep; done)
 clear hK K
 try simp only [Act.put, nA, nB, nC, nD, nE, nF]
 refine wpAnyH_ready (rs := [14]) (by kernel_rfl) (by simp) ?_
 refine AllReadyH.cons rfl (fun K hK => ?_) AllReadyH.nil
 go_simp
 go_wp2_with (go_at_call 141; refine (z_aF _ 4 opsS b _ _ (by decide) HS1.out).mono ?_; rintro e w2 ⟨rfl, rfl⟩; rw [hh])
 refine hK.out _ _ ?_ (fun hHeld => ?_)
 ·try dsimp only
  first | assumption | exact ⟨d0, d1⟩ | (go_keep; done)
 clear hK K
 try simp only [Act.put, nA, nB, nC, nD, nE, nF]
 refine tkL 15 ?_
 try simp only [Act.put, nA, nB, nC, nD, nE, nF]
 refine tkL 16 ?_
 try simp only [Act.put, nA, nB, nC, nD, nE, nF]
 refine tkL 17 ?_
 try simp only [Act.put, nA, nB, nC, nD, nE, nF]
 refine tkL 18 ?_
 try simp only [Act.put, nA, nB, nC, nD, nE, nF]
 refine tkL 19 ?_
 try simp only [Act.put, nA, nB, nC, nD, nE, nF]
 refine tkL 20 ?_
 try simp only [Act.put, nA, nB, nC, nD, nE, nF]
 refine tkR 21 ?_
 try simp only [Act.put, nA, nB, nC, nD, nE, nF]
 refine tkR 22 ?_
 try simp only [Act.put, nA, nB, nC, nD, nE, nF]
 refine tkR 23 ?_
 try simp only [Act.put, nA, nB, nC, nD, nE, nF]
 refine tkR 24 ?_
 try simp only [Act.put, nA, nB, nC, nD, nE, nF]
 refine tkL 25 ?_
 try simp only [Act.put, nA, nB, nC, nD, nE, nF]
 refine tkL 26 ?_
 try simp only [Act.put, nA, nB, nC, nD, nE, nF]
 refine tkL 27 ?_
 try simp only [Act.put, nA, nB, nC, nD, nE, nF]
 refine tkL 28 ?_
 try simp only [Act.put, nA, nB, nC, nD, nE, nF]
 refine tkL 29 ?_
 try simp only [Act.put, nA, nB, nC, nD, nE, nF]
 refine tkL 30 ?_
 try simp only [Act.put, nA, nB, nC, nD, nE, nF]
 refine tkL 31 ?_
 try simp only [Act.put, nA, nB, nC, nD, nE, nF]
 refine tkL 32 ?_
 try simp only [Act.put, nA, nB, nC, nD, nE, nF]
 refine tkL 33 ?_
 try simp only [Act.put, nA, nB, nC, nD, nE, nF]
 refine tkL 34 ?_
 try simp only [Act.put, nA, nB, nC, nD, nE, nF]
 refine tkL 35 ?_
 try simp only [Act.put, nA, nB, nC, nD, nE, nF]
 refine tkL 36 ?_
 try simp only [Act.put, nA, nB, nC, nD, nE, nF]
 refine tkL 37 ?_
 try simp only [Act.put, nA, nB, nC, nD, nE, nF]
 refine tkR 38 ?_
 try simp only [Act.put, nA, nB, nC, nD, nE, nF]
 refine tkR 39 ?_
 try simp only [Act.put, nA, nB, nC, nD, nE, nF]
 refine tkR 40 ?_
 try simp only [Act.put, nA, nB, nC, nD, nE, nF]
 refine tkR 41 ?_
 try simp only [Act.put, nA, nB, nC, nD, nE, nF]
 refine tkL 42 ?_
 try simp only [Act.put, nA, nB, nC, nD, nE, nF]
 refine wpAnyH_done (by kernel_rfl) ?_ _
 all_goals
  go_wp2_with fail
  refine bodyPost_ret (v := .tuple #[.agg #[.int .i64 _, .string ⟨#[]⟩, .string ⟨#[]⟩, .slice none 0 0, .string ⟨#[]⟩], .bool false]) (by simp [results, Tryz.results171, go_sem, r0, r1, r2, r3, r4]; rfl) rfl ?_
  exact z_aH (args := []) (z_az HB1.out _ _ _ _ _) (Nat.le_refl _) (StrsAt.nil _ _ _ _) HN.out (Nat.zero_le _)
end
end Go.Proofs.YtlbjjbolbopfmaaGreatDoor
