import Derived.Test.YtlbjjbolbopfmaaGreatDoorI01
import Derived.Laws.ResultCell
import Derived.Deep.RegionHeld3
import Derived.BigRegion
import Derived.RegionTactic
namespace Go.Proofs.YtlbjjbolbopfmaaGreatDoor
set_option maxHeartbeats 1000000
set_option linter.unusedVariables false
section
open Go.RowKit
theorem z_m5 (A B : Nat) (w : World) : z_nh A B w (.agg #[.int .i64 0, .string ⟨#[]⟩, .string ⟨#[]⟩, .slice none 0 0, .string ⟨#[]⟩]) 0 ⟨eS, eS, [], eS⟩ :=
 ⟨none, 0, rfl, Nat.le_refl _, StrsAt.nil _ _ _ _⟩
theorem ReadEnd.no {o : Option Bd} {k : Int} {w w' : World} {e : Ending} (h : o = none) (he : e = .returned (.tuple #[.agg #[.int .i64 0, .string ⟨#[]⟩, .string ⟨#[]⟩, .slice none 0 0, .string ⟨#[]⟩], .bool false])) (hb : Below w.heap.size w w') : ReadEnd o k w e w' := by
 subst h
 exact ⟨_, he, hb, 0, _, z_m5 _ _ _, fun d hd => by cases hd⟩
theorem ReadEnd.yes {o : Option Bd} {k : Int} {w w' : World} {e : Ending} {v : Value} {d : Bd} (h : o = some d) (he : e = .returned (.tuple #[v, .bool true])) (hb : Below w.heap.size w w') (hv : z_nh w.heap.size w'.heap.size w' v k d) : ReadEnd o k w e w' := by
 subst h
 exact ⟨v, he, hb, k, d, hv, fun d' hd => by cases hd; exact ⟨rfl, rfl⟩⟩
theorem box5 {w w1 : World} {x0 x1 x2 x3 x4 : Value} {t : TypeId} (hb : Below (w.alloc (.cells #[x0, x1, x2, x3, x4] t)).heap.size (w.alloc (.cells #[x0, x1, x2, x3, x4] t)) w1) :
  (w1.cell? ⟨w.heap.size, 0, none⟩ = some x0 ∧ w1.cell? ⟨w.heap.size, 1, none⟩ = some x1 ∧ w1.cell? ⟨w.heap.size, 2, none⟩ = some x2 ∧ w1.cell? ⟨w.heap.size, 3, none⟩ = some x3 ∧ w1.cell? ⟨w.heap.size, 4, none⟩ = some x4) ∧ (∀ o, w1.frozen? ⟨w.heap.size, o, none⟩ = false) ∧ w.heap.size < w1.heap.size := by
 have hs := hb.size
 simp at hs
 refine ⟨⟨?_, ?_, ?_, ?_, ?_⟩, ?_, by omega⟩
 ·rw [hb.cell (by simp)]; simp [go_sem]
 ·rw [hb.cell (by simp)]; simp [go_sem]
 ·rw [hb.cell (by simp)]; simp [go_sem]
 ·rw [hb.cell (by simp)]; simp [go_sem]
 ·rw [hb.cell (by simp)]; simp [go_sem]
 ·intro o; rw [hb.frozen (by simp)]; simp [go_sem]
theorem z_bS (ao : Option Addr) (cap : Nat) (ws : List ByteArray) (w : World) (hl : ws.length ≤ 4398046511104) :
  Calls Tryz.prog 186 #[.slice ao ws.length cap] w fun e w' => ReadEnd (pNothing ws) 0 w e w' := by
 by_cases h0 : ws.length = 0
 ·have e : ws = [] := List.length_eq_zero_iff.1 h0
  subst e
  go_enter Tryz.func186, Tryz.ntmps186
  go_wp2
  refine bodyPost_ret (v := .tuple #[.agg #[.int .i64 0, .string ⟨#[]⟩, .string ⟨#[]⟩, .slice none 0 0, .string ⟨#[]⟩], .bool true]) (by simp [results, Tryz.results186, go_sem]) rfl ?_
  exact ReadEnd.yes rfl rfl ((Below.refl _ _).alloc (Nat.le_refl _) _) (z_m5 _ _ _)
 ·have HN : Hid (pNothing ws = none) := by cases ws with
   | nil => simp at h0
   | cons a r => rfl
  have hq : ((ws.length : Int) == 0) = false := by simp; intro h; subst h; simp at h0
  go_enter Tryz.func186, Tryz.ntmps186
  go_wp2
  refine bodyPost_ret (v := .tuple #[.agg #[.int .i64 0, .string ⟨#[]⟩, .string ⟨#[]⟩, .slice none 0 0, .string ⟨#[]⟩], .bool false]) (by simp [results, Tryz.results186, go_sem]) rfl ?_
  exact ReadEnd.no HN.out rfl ((Below.refl _ _).alloc (Nat.le_refl _) _)
theorem z_nZ {ws : List ByteArray} (h : ws.length = 1) : ∃ a, ws = [a] := List.length_eq_one_iff.1 h
theorem z_go (ao : Option Addr) (cap : Nat) (ws : List ByteArray) (w : World) (hl : ws.length ≤ 4398046511104) (hs : ∀ s ∈ ws, s.size ≤ 2199023255552) (hi : StrsAt 0 w.heap.size w ao ws) :
  Calls Tryz.prog 188 #[.slice ao ws.length cap] w fun e w' => ReadEnd (pPatch ws) 0 w e w' := by
 by_cases h1 : ws.length = 1
 ·obtain ⟨a, rfl⟩ := z_nZ h1
  have hsa := hs a (by simp)
  obtain ⟨b, off, rfl, hB, hc0⟩ := hi.at 0 (by simp)
  have hc : w.cell? ⟨b, off, none⟩ = some (.string a) := hc0
  obtain ⟨_, hBw⟩ := hB
  clear hc0 hi hs
  have hca : ∀ o, (w.alloc o).cell? ⟨b, off, none⟩ = some (.string a) := fun o => by rw [World.cell?_alloc_past _ _ _ hBw]; exact hc
  cases hn : z_ac a with
  | true =>
   have HN : Hid (pPatch [a] = some ⟨eS, a, [], eS⟩) := by simp [Hid, pPatch, hn]
   go_enter Tryz.func188, Tryz.ntmps188
   go_wp2_with fail
   refine (z_aQ _ _ (by omega)).mono ?_
   rintro e w1 ⟨rfl, hb1⟩
   rw [hn]
   obtain ⟨⟨x0, x1, x2, x3, x4⟩, hf, hlt⟩ := box5 hb1
   have hc1 : w1.cell? ⟨b, off, none⟩ = some (.string a) := by rw [hb1.cell (by simp; omega)]; exact hca _
   have HB : Hid (Below w.heap.size w w1) := ((Below.refl _ _).alloc (Nat.le_refl _) _).trans (hb1.mono (by simp))
   clear hb1 hca
   go_wp2
   refine bodyPost_ret (v := .tuple #[.agg #[.int .i64 0, .string ⟨#[]⟩, .string a, .slice none 0 0, .string ⟨#[]⟩], .bool true]) (by simp [results, Tryz.results188, go_sem, x0, x1, x2, x3, x4]) rfl ?_
   exact ReadEnd.yes HN.out rfl (z_aw _ (Nat.le_refl _) HB.out) ⟨none, 0, rfl, Nat.le_refl _, StrsAt.nil _ _ _ _⟩
  | false =>
   have HN : Hid (pPatch [a] = none) := by simp [Hid, pPatch, hn]
   go_enter Tryz.func188, Tryz.ntmps188
   go_wp2_with fail
   refine (z_aQ _ _ (by omega)).mono ?_
   rintro e w1 ⟨rfl, hb1⟩
   rw [hn]
   obtain ⟨⟨x0, x1, x2, x3, x4⟩, hf, hlt⟩ := box5 hb1
   have HB : Hid (Below w.heap.size w w1) := ((Below.refl _ _).alloc (Nat.le_refl _) _).trans (hb1.mono (by simp))
   clear hb1 hca
   go_wp2
   refine bodyPost_ret (v := .tuple #[.agg #[.int .i64 0, .string ⟨#[]⟩, .string ⟨#[]⟩, .slice none 0 0, .string ⟨#[]⟩], .bool false]) (by simp [results, Tryz.results188, go_sem, x0, x1, x2, x3, x4]) rfl ?_
   exact ReadEnd.no HN.out rfl (z_aw _ (Nat.le_refl _) HB.out)
 ·have HN : Hid (pPatch ws = none) := by
   match ws, h1 with
   | [], _ => rfl
   | [a], h1 => simp at h1
   | a :: b :: r, _ => rfl
  have hq : ((ws.length : Int) == 1) = false := by simp; omega
  go_enter Tryz.func188, Tryz.ntmps188
  go_wp2
  refine bodyPost_ret (v := .tuple #[.agg #[.int .i64 0, .string ⟨#[]⟩, .string ⟨#[]⟩, .slice none 0 0, .string ⟨#[]⟩], .bool false]) (by simp [results, Tryz.results188, go_sem]) rfl ?_
  exact ReadEnd.no HN.out rfl ((Below.refl _ _).alloc (Nat.le_refl _) _)
theorem z_ep (ao : Option Addr) (cap : Nat) (ws : List ByteArray) (w : World) (hl : ws.length ≤ 4398046511104) (hs : ∀ s ∈ ws, s.size ≤ 2199023255552) (hi : StrsAt 0 w.heap.size w ao ws) (he : Env w) :
  Calls Tryz.prog 189 #[.slice ao ws.length cap] w fun e w' => ReadEnd (pNext ws) 0 w e w' := by
 have HI : Hid (StrsAt 0 w.heap.size w ao ws) := hi
 have HS : Hid (∀ s ∈ ws, s.size ≤ 2199023255552) := hs
 have HE : Hid (Env w) := he
 clear hi hs he
 by_cases h3 : ws.length ≤ 3
 ·cases ha : allB z_an ws with
  | true =>
   have HN : Hid (pNext ws = some ⟨eS, eS, ws, eS⟩) := by simp [Hid, pNext, h3, ha]
   go_enter Tryz.func189, Tryz.ntmps189
   go_wp2_with fail
   refine (z_ar _ _ _ w.heap.size _ (by simp) (by omega) HS.out (HE.out.later ((Below.refl _ _).alloc (Nat.le_refl _) _)) (HI.out.below ((Below.refl _ _).alloc (Nat.le_refl _) _))).mono ?_
   rintro e w1 ⟨rfl, hb1⟩
   rw [ha]
   obtain ⟨⟨x0, x1, x2, x3, x4⟩, hf, hlt⟩ := box5 hb1
   have HB : Hid (Below w.heap.size w w1) := ((Below.refl _ _).alloc (Nat.le_refl _) _).trans (hb1.mono (by simp))
   clear hb1
   go_wp2_with fail
   refine (z_bc _ _ _ _ hl (HI.out.later HB.out)).mono ?_
   rintro e w2 ⟨v, rfl, hb2, hv⟩
   obtain ⟨hc2, hf2⟩ := z_ch hb2
   rw [← hc2 _ _ hlt] at x0 x1 x2 x3 x4
   have hfz : ∀ o, w2.frozen? ⟨w.heap.size, o, none⟩ = false := fun o => by rw [hf2 _ _ hlt]; exact hf o
   have HB2 : Hid (Below w.heap.size w w2) := HB.out.trans (hb2.mono (by omega))
   have hlt2 : w.heap.size < w2.heap.size := by have := hb2.size; omega
   obtain ⟨bo, cap', rfl, hcp, hv⟩ := hv
   have HV : Hid (StrsAt (w.heap.size + 1) w2.heap.size w2 bo ws) := hv.mono (by omega) (Nat.le_refl _)
   clear hb2 hc2 hf2 hf hv
   go_wp2
   refine bodyPost_ret (v := .tuple #[.agg #[.int .i64 0, .string ⟨#[]⟩, .string ⟨#[]⟩, .slice bo ws.length cap', .string ⟨#[]⟩], .bool true]) (by simp [results, Tryz.results189, go_sem, x0, x1, x2, x3, x4]) rfl ?_
   exact ReadEnd.yes HN.out rfl (z_aw _ (Nat.le_refl _) HB2.out) ⟨bo, cap', rfl, hcp, by rw [z_bw]; exact (HV.out.set5 _ (.inl (by omega))).mono (by omega) (Nat.le_refl _)⟩
  | false =>
   have HN : Hid (pNext ws = none) := by simp [Hid, pNext, ha]
   go_enter Tryz.func189, Tryz.ntmps189
   go_wp2_with fail
   refine (z_ar _ _ _ w.heap.size _ (by simp) (by omega) HS.out (HE.out.later ((Below.refl _ _).alloc (Nat.le_refl _) _)) (HI.out.below ((Below.refl _ _).alloc (Nat.le_refl _) _))).mono ?_
   rintro e w1 ⟨rfl, hb1⟩
   rw [ha]
   obtain ⟨⟨x0, x1, x2, x3, x4⟩, hf, hlt⟩ := box5 hb1
   have HB : Hid (Below w.heap.size w w1) := ((Below.refl _ _).alloc (Nat.le_refl _) _).trans (hb1.mono (by simp))
   clear hb1
   go_wp2
   refine bodyPost_ret (v := .tuple #[.agg #[.int .i64 0, .string ⟨#[]⟩, .string ⟨#[]⟩, .slice none 0 0, .string ⟨#[]⟩], .bool false]) (by simp [results, Tryz.results189, go_sem, x0, x1, x2, x3, x4]) rfl ?_
   exact ReadEnd.no HN.out rfl (z_aw _ (Nat.le_refl _) HB.out)
 ·have HN : Hid (pNext ws = none) := by simp [Hid, pNext, h3]
  go_enter Tryz.func189, Tryz.ntmps189
  go_wp2
  refine bodyPost_ret (v := .tuple #[.agg #[.int .i64 0, .string ⟨#[]⟩, .string ⟨#[]⟩, .slice none 0 0, .string ⟨#[]⟩], .bool false]) (by simp [results, Tryz.results189, go_sem]) rfl ?_
  exact ReadEnd.no HN.out rfl ((Below.refl _ _).alloc (Nat.le_refl _) _)
theorem z_cq (ao : Option Addr) (cap : Nat) (ws : List ByteArray) (w : World) (hl : ws.length ≤ 4398046511104) (hs : ∀ s ∈ ws, s.size ≤ 2199023255552) (hi : StrsAt 0 w.heap.size w ao ws) (he : Env w) :
  Calls Tryz.prog 187 #[.slice ao ws.length cap] w fun e w' => ReadEnd (pOperand ws) 0 w e w' := by
 have HI : Hid (StrsAt 0 w.heap.size w ao ws) := hi
 have HS : Hid (∀ s ∈ ws, s.size ≤ 2199023255552) := hs
 have HE : Hid (Env w) := he
 clear hi hs he
 by_cases h1 : ws.length = 1
 ·have HN : Hid (pOperand ws = pNext ws) := by simp [Hid, pOperand, h1]
  have hq : ((ws.length : Int) == 1) = true := by simp; omega
  have h2 : 1 ≤ ws.length := by omega
  have h3 : ws.length ≤ 1 := by omega
  clear h1
  go_enter Tryz.func187, Tryz.ntmps187
  go_wp2_with fail
  refine (z_ep _ _ _ _ hl HS.out (HI.out.later ((Below.refl _ _).alloc (Nat.le_refl _) _)) (HE.out.later ((Below.refl _ _).alloc (Nat.le_refl _) _))).mono ?_
  rintro e w1 ⟨v, rfl, hb1, k', d', hv, hd⟩
  obtain ⟨⟨x0, x1, x2, x3, x4⟩, hf, hlt⟩ := box5 hb1
  have HB : Hid (Below w.heap.size w w1) := ((Below.refl _ _).alloc (Nat.le_refl _) _).trans (hb1.mono (by simp))
  obtain ⟨bo, cap', rfl, hcp, hv⟩ := hv
  simp at hv
  have HV : Hid (StrsAt (w.heap.size + 1) w1.heap.size w1 bo d'.args) := hv
  have HD : Hid (∀ d, pNext ws = some d → d' = d ∧ k' = 0) := hd
  clear hb1 hv hd
  go_wp2
  refine bodyPost_ret (v := .tuple #[.agg #[.int .i64 k', .string d'.to, .string d'.name, .slice bo d'.args.length cap', .string d'.undo], .bool (pNext ws).isSome]) (by simp [results, Tryz.results187, go_sem, x0, x1, x2, x3, x4]) rfl ?_
  rw [HN.out]
  exact ⟨_, rfl, z_aw _ (Nat.le_refl _) HB.out, k', d', ⟨bo, cap', rfl, hcp, by rw [z_bw]; exact (HV.out.set5 _ (.inl (by omega))).mono (by omega) (Nat.le_refl _)⟩, HD.out⟩
 ·have HN : Hid (pOperand ws = none) := by simp [Hid, pOperand, h1]
  have hq : ((ws.length : Int) == 1) = false := by simp; omega
  go_enter Tryz.func187, Tryz.ntmps187
  go_wp2
  refine bodyPost_ret (v := .tuple #[.agg #[.int .i64 0, .string ⟨#[]⟩, .string ⟨#[]⟩, .slice none 0 0, .string ⟨#[]⟩], .bool false]) (by simp [results, Tryz.results187, go_sem]) rfl ?_
  exact ReadEnd.no HN.out rfl ((Below.refl _ _).alloc (Nat.le_refl _) _)
end
section
open Go.RowKit
theorem z_mL {ws : List ByteArray} (h : ws.length = 3) : ∃ a b c, ws = [a, b, c] := by
 match ws, h with
 | [a, b, c], _ => exact ⟨a, b, c, rfl⟩
theorem StrsAt.drew {w : World} {A B : Nat} {ao : Option Addr} {ss : List ByteArray} (h : StrsAt A B w ao ss) : StrsAt A B w.drew ao ss := h
theorem StrsAt.two {w : World} {g : Nat} {A : Nat} (a b : ByteArray) (t : TypeId) (hg : g = w.heap.size) (hA : A ≤ g) : StrsAt A (w.alloc (.cells #[.string a, .string b] t)).heap.size (w.alloc (.cells #[.string a, .string b] t)) (some ⟨g, 0, none⟩) [a, b] := by
 intro k hk
 subst hg
 refine ⟨w.heap.size, 0, rfl, ⟨hA, by simp⟩, ?_⟩
 match k, hk with
 | 0, _ => simp
 | 1, _ => simp
theorem z_i (ao : Option Addr) (cap : Nat) (a t b : ByteArray) (w : World) (hsa : a.size ≤ 2199023255552) (hsb : b.size ≤ 2199023255552) (hi : StrsAt 0 w.heap.size w ao [a, t, b]) (he : Env w)
  (ha : z_an a = true) (ht : z_cC t = true) (hb : z_an b = true) :
  Calls Tryz.prog 185 #[.slice ao 3 cap] w fun e w' => ReadEnd (pTest [a, t, b]) 0 w e w' := by
 have HN : Hid (pTest [a, t, b] = some ⟨eS, t, [a, b], eS⟩) := by simp [Hid, pTest, ha, hb, ht]
 obtain ⟨g, off, rfl, hB, hc0⟩ := hi.at 0 (by simp)
 obtain ⟨g', off', e1, _, hc1⟩ := hi.at 1 (by simp)
 obtain ⟨g'', off'', e2, _, hc2⟩ := hi.at 2 (by simp)
 cases e1; cases e2
 obtain ⟨_, hBw⟩ := hB
 have c0 : w.cell? ⟨g, off, none⟩ = some (.string a) := hc0
 have c1 : w.cell? ⟨g, off + 1, none⟩ = some (.string t) := hc1
 have c2 : w.cell? ⟨g, off + 2, none⟩ = some (.string b) := hc2
 have HE : Hid (Env w) := he
 clear hc0 hc1 hc2 hi he
 have a0 : ∀ o, (w.alloc o).cell? ⟨g, off, none⟩ = some (.string a) := fun o => by rw [World.cell?_alloc_past _ _ _ hBw]; exact c0
 go_enter Tryz.func185, Tryz.ntmps185
 go_wp2_with fail
 refine (z_aT _ _ hsa (HE.out.later ((Below.refl _ _).alloc (Nat.le_refl _) _))).mono ?_
 rintro e w1 ⟨rfl, hb1⟩
 rw [ha]
 obtain ⟨⟨x0, x1, x2, x3, x4⟩, hf, hlt⟩ := box5 hb1
 have HB : Below w.heap.size w w1 := ((Below.refl _ _).alloc (Nat.le_refl _) _).trans (hb1.mono (by simp))
 rw [← HB.cell (p := ⟨g, off, none⟩) hBw] at c0
 rw [← HB.cell (p := ⟨g, off + 1, none⟩) hBw] at c1
 rw [← HB.cell (p := ⟨g, off + 2, none⟩) hBw] at c2
 have HB1 : Hid (Below w.heap.size w w1) := HB
 clear hb1 HB a0
 go_wp2_with fail
 refine (z_ee _ _).mono ?_
 rintro e w' ⟨rfl, rfl⟩
 rw [ht]
 go_wp2_with fail
 refine (z_aT _ _ hsb (HE.out.later HB1.out)).mono ?_
 rintro e w2 ⟨rfl, hb2⟩
 rw [hb]
 obtain ⟨hc2, hf2⟩ := z_ch hb2
 rw [← hc2 _ _ hlt] at x0 x1 x2 x3 x4
 rw [← hc2 _ _ (by omega)] at c0 c1 c2
 have hfz : ∀ o, w2.frozen? ⟨w.heap.size, o, none⟩ = false := fun o => by rw [hf2 _ _ hlt]; exact hf o
 have HB2 : Hid (Below w.heap.size w w2) := HB1.out.trans (hb2.mono (by omega))
 have hlt2 : w.heap.size < w2.heap.size := by have := hb2.size; omega
 have hg2 : g < w2.heap.size := by omega
 clear hb2 hc2 hf2 hf
 go_wp2_with fail
 go_region
 all_goals
  go_wp2
  refine bodyPost_ret (v := .tuple #[.agg #[.int .i64 0, .string ⟨#[]⟩, .string t, .slice (some ⟨w2.heap.size, 0, none⟩) 2 2, .string ⟨#[]⟩], .bool true]) (by simp [results, Tryz.results185, go_sem, x0, x1, x2, x3, x4, hlt2]) rfl ?_
  refine ReadEnd.yes (v := .agg #[.int .i64 0, .string ⟨#[]⟩, .string t, .slice (some ⟨w2.heap.size, 0, none⟩) 2 2, .string ⟨#[]⟩]) HN.out rfl ?_ ?_
  ·refine Below.drew ?_
   refine Below.alloc ?_ ?_ _
   ·exact z_aw _ (Nat.le_refl _) HB2.out
   ·rw [z_bw]; omega
  ·refine ⟨some ⟨w2.heap.size, 0, none⟩, 2, rfl, Nat.le_refl _, ?_⟩
   exact StrsAt.drew (StrsAt.two a b _ (by rw [z_bw]) (by omega))
theorem z_i5 (ao : Option Addr) (cap : Nat) (a t b : ByteArray) (w : World) (hsa : a.size ≤ 2199023255552) (hsb : b.size ≤ 2199023255552) (hi : StrsAt 0 w.heap.size w ao [a, t, b]) (he : Env w)
  (ha : z_an a = true) (ht : z_cC t = true) (hb : z_an b = false) :
  Calls Tryz.prog 185 #[.slice ao 3 cap] w fun e w' => ReadEnd (pTest [a, t, b]) 0 w e w' := by
 have HN : Hid (pTest [a, t, b] = none) := by simp [Hid, pTest, hb]
 obtain ⟨g, off, rfl, hB, hc0⟩ := hi.at 0 (by simp)
 obtain ⟨g', off', e1, _, hc1⟩ := hi.at 1 (by simp)
 obtain ⟨g'', off'', e2, _, hc2⟩ := hi.at 2 (by simp)
 cases e1; cases e2
 obtain ⟨_, hBw⟩ := hB
 have c0 : w.cell? ⟨g, off, none⟩ = some (.string a) := hc0
 have c1 : w.cell? ⟨g, off + 1, none⟩ = some (.string t) := hc1
 have c2 : w.cell? ⟨g, off + 2, none⟩ = some (.string b) := hc2
 have HE : Hid (Env w) := he
 clear hc0 hc1 hc2 hi he
 have a0 : ∀ o, (w.alloc o).cell? ⟨g, off, none⟩ = some (.string a) := fun o => by rw [World.cell?_alloc_past _ _ _ hBw]; exact c0
 go_enter Tryz.func185, Tryz.ntmps185
 go_wp2_with fail
 refine (z_aT _ _ hsa (HE.out.later ((Below.refl _ _).alloc (Nat.le_refl _) _))).mono ?_
 rintro e w1 ⟨rfl, hb1⟩
 rw [ha]
 obtain ⟨⟨x0, x1, x2, x3, x4⟩, hf, hlt⟩ := box5 hb1
 have HB : Below w.heap.size w w1 := ((Below.refl _ _).alloc (Nat.le_refl _) _).trans (hb1.mono (by simp))
 rw [← HB.cell (p := ⟨g, off, none⟩) hBw] at c0
 rw [← HB.cell (p := ⟨g, off + 1, none⟩) hBw] at c1
 rw [← HB.cell (p := ⟨g, off + 2, none⟩) hBw] at c2
 have HB1 : Hid (Below w.heap.size w w1) := HB
 clear hb1 HB a0
 go_wp2_with fail
 refine (z_ee _ _).mono ?_
 rintro e w' ⟨rfl, rfl⟩
 rw [ht]
 go_wp2_with fail
 refine (z_aT _ _ hsb (HE.out.later HB1.out)).mono ?_
 rintro e w2 ⟨rfl, hb2⟩
 rw [hb]
 obtain ⟨hc2, hf2⟩ := z_ch hb2
 rw [← hc2 _ _ hlt] at x0 x1 x2 x3 x4
 rw [← hc2 _ _ (by omega)] at c0 c1 c2
 have hfz : ∀ o, w2.frozen? ⟨w.heap.size, o, none⟩ = false := fun o => by rw [hf2 _ _ hlt]; exact hf o
 have HB2 : Hid (Below w.heap.size w w2) := HB1.out.trans (hb2.mono (by omega))
 have hlt2 : w.heap.size < w2.heap.size := by have := hb2.size; omega
 have hg2 : g < w2.heap.size := by omega
 clear hb2 hc2 hf2 hf
 go_wp2
 refine bodyPost_ret (v := .tuple #[.agg #[.int .i64 0, .string ⟨#[]⟩, .string ⟨#[]⟩, .slice none 0 0, .string ⟨#[]⟩], .bool false]) (by simp [results, Tryz.results185, go_sem, x0, x1, x2, x3, x4]) rfl ?_
 exact ReadEnd.no HN.out rfl (z_aw _ (Nat.le_refl _) HB2.out)
theorem z_iU (ao : Option Addr) (cap : Nat) (a t b : ByteArray) (w : World) (hsa : a.size ≤ 2199023255552) (hi : StrsAt 0 w.heap.size w ao [a, t, b]) (he : Env w)
  (ha : z_an a = true) (ht : z_cC t = false) :
  Calls Tryz.prog 185 #[.slice ao 3 cap] w fun e w' => ReadEnd (pTest [a, t, b]) 0 w e w' := by
 have HN : Hid (pTest [a, t, b] = none) := by simp [Hid, pTest, ht]
 obtain ⟨g, off, rfl, hB, hc0⟩ := hi.at 0 (by simp)
 obtain ⟨g', off', e1, _, hc1⟩ := hi.at 1 (by simp)
 obtain ⟨g'', off'', e2, _, hc2⟩ := hi.at 2 (by simp)
 cases e1; cases e2
 obtain ⟨_, hBw⟩ := hB
 have c0 : w.cell? ⟨g, off, none⟩ = some (.string a) := hc0
 have c1 : w.cell? ⟨g, off + 1, none⟩ = some (.string t) := hc1
 have c2 : w.cell? ⟨g, off + 2, none⟩ = some (.string b) := hc2
 have HE : Hid (Env w) := he
 clear hc0 hc1 hc2 hi he
 have a0 : ∀ o, (w.alloc o).cell? ⟨g, off, none⟩ = some (.string a) := fun o => by rw [World.cell?_alloc_past _ _ _ hBw]; exact c0
 go_enter Tryz.func185, Tryz.ntmps185
 go_wp2_with fail
 refine (z_aT _ _ hsa (HE.out.later ((Below.refl _ _).alloc (Nat.le_refl _) _))).mono ?_
 rintro e w1 ⟨rfl, hb1⟩
 rw [ha]
 obtain ⟨⟨x0, x1, x2, x3, x4⟩, hf, hlt⟩ := box5 hb1
 have HB : Below w.heap.size w w1 := ((Below.refl _ _).alloc (Nat.le_refl _) _).trans (hb1.mono (by simp))
 rw [← HB.cell (p := ⟨g, off, none⟩) hBw] at c0
 rw [← HB.cell (p := ⟨g, off + 1, none⟩) hBw] at c1
 rw [← HB.cell (p := ⟨g, off + 2, none⟩) hBw] at c2
 have HB1 : Hid (Below w.heap.size w w1) := HB
 clear hb1 HB a0
 go_wp2_with fail
 refine (z_ee _ _).mono ?_
 rintro e w' ⟨rfl, rfl⟩
 rw [ht]
 go_wp2
 refine bodyPost_ret (v := .tuple #[.agg #[.int .i64 0, .string ⟨#[]⟩, .string ⟨#[]⟩, .slice none 0 0, .string ⟨#[]⟩], .bool false]) (by simp [results, Tryz.results185, go_sem, x0, x1, x2, x3, x4]) rfl ?_
 exact ReadEnd.no HN.out rfl (z_aw _ (Nat.le_refl _) HB1.out)
theorem z_iT (ao : Option Addr) (cap : Nat) (a t b : ByteArray) (w : World) (hsa : a.size ≤ 2199023255552) (hi : StrsAt 0 w.heap.size w ao [a, t, b]) (he : Env w)
  (ha : z_an a = false) :
  Calls Tryz.prog 185 #[.slice ao 3 cap] w fun e w' => ReadEnd (pTest [a, t, b]) 0 w e w' := by
 have HN : Hid (pTest [a, t, b] = none) := by simp [Hid, pTest, ha]
 obtain ⟨g, off, rfl, hB, hc0⟩ := hi.at 0 (by simp)
 obtain ⟨g', off', e1, _, hc1⟩ := hi.at 1 (by simp)
 obtain ⟨g'', off'', e2, _, hc2⟩ := hi.at 2 (by simp)
 cases e1; cases e2
 obtain ⟨_, hBw⟩ := hB
 have c0 : w.cell? ⟨g, off, none⟩ = some (.string a) := hc0
 have c1 : w.cell? ⟨g, off + 1, none⟩ = some (.string t) := hc1
 have c2 : w.cell? ⟨g, off + 2, none⟩ = some (.string b) := hc2
 have HE : Hid (Env w) := he
 clear hc0 hc1 hc2 hi he
 have a0 : ∀ o, (w.alloc o).cell? ⟨g, off, none⟩ = some (.string a) := fun o => by rw [World.cell?_alloc_past _ _ _ hBw]; exact c0
 go_enter Tryz.func185, Tryz.ntmps185
 go_wp2_with fail
 refine (z_aT _ _ hsa (HE.out.later ((Below.refl _ _).alloc (Nat.le_refl _) _))).mono ?_
 rintro e w1 ⟨rfl, hb1⟩
 rw [ha]
 obtain ⟨⟨x0, x1, x2, x3, x4⟩, hf, hlt⟩ := box5 hb1
 have HB : Below w.heap.size w w1 := ((Below.refl _ _).alloc (Nat.le_refl _) _).trans (hb1.mono (by simp))
 rw [← HB.cell (p := ⟨g, off, none⟩) hBw] at c0
 rw [← HB.cell (p := ⟨g, off + 1, none⟩) hBw] at c1
 rw [← HB.cell (p := ⟨g, off + 2, none⟩) hBw] at c2
 have HB1 : Hid (Below w.heap.size w w1) := HB
 clear hb1 HB a0
 go_wp2
 refine bodyPost_ret (v := .tuple #[.agg #[.int .i64 0, .string ⟨#[]⟩, .string ⟨#[]⟩, .slice none 0 0, .string ⟨#[]⟩], .bool false]) (by simp [results, Tryz.results185, go_sem, x0, x1, x2, x3, x4]) rfl ?_
 exact ReadEnd.no HN.out rfl (z_aw _ (Nat.le_refl _) HB1.out)
theorem z_ei (ao : Option Addr) (cap : Nat) (ws : List ByteArray) (w : World) (hl : ws.length ≤ 4398046511104) (hs : ∀ s ∈ ws, s.size ≤ 2199023255552) (hi : StrsAt 0 w.heap.size w ao ws) (he : Env w) :
  Calls Tryz.prog 185 #[.slice ao ws.length cap] w fun e w' => ReadEnd (pTest ws) 0 w e w' := by
 by_cases h3 : ws.length = 3
 ·obtain ⟨a, t, b, rfl⟩ := z_mL h3
  have hsa := hs a (by simp)
  have hsb := hs b (by simp)
  cases ha : z_an a with
  | false => exact z_iT ao cap a t b w hsa hi he ha
  | true =>
   cases ht : z_cC t with
   | false => exact z_iU ao cap a t b w hsa hi he ha ht
   | true =>
    cases hb : z_an b with
    | false => exact z_i5 ao cap a t b w hsa hsb hi he ha ht hb
    | true => exact z_i ao cap a t b w hsa hsb hi he ha ht hb
 ·have HN : Hid (pTest ws = none) := by
   match ws, h3 with
   | [], _ => rfl
   | [_], _ => rfl
   | [_, _], _ => rfl
   | [a, b, c], h3 => exact absurd rfl h3
   | _ :: _ :: _ :: _ :: _, _ => rfl
  have hq : ((ws.length : Int) == 3) = false := by simp; omega
  go_enter Tryz.func185, Tryz.ntmps185
  go_wp2
  refine bodyPost_ret (v := .tuple #[.agg #[.int .i64 0, .string ⟨#[]⟩, .string ⟨#[]⟩, .slice none 0 0, .string ⟨#[]⟩], .bool false]) (by simp [results, Tryz.results185, go_sem]) rfl ?_
  exact ReadEnd.no HN.out rfl ((Below.refl _ _).alloc (Nat.le_refl _) _)
end
end Go.Proofs.YtlbjjbolbopfmaaGreatDoor
