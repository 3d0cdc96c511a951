import Derived.Test.YtlbjjbolbopfmaaGreatDoorJ02
import Derived.Test.YtlbjjbolbopfmaaGreatDoorJ03
import Derived.Laws.ResultCell
import Derived.Deep.RegionHeld3
import Derived.BigRegion
import Derived.RegionTactic
import Derived.Lib.OthersKept
import Derived.Deep.LoopGhost
import Derived.Deep.AppendLies
namespace Go.Proofs.YtlbjjbolbopfmaaGreatDoor
set_option maxHeartbeats 2000000
set_option maxRecDepth 1000000
set_option linter.unusedVariables false
section
open Go.RowKit
theorem z_mY (A B : Nat) (w : World) : z_nG A B w (.agg #[.int .i64 0, .string ⟨#[]⟩, .string ⟨#[]⟩, .slice none 0 0, .string ⟨#[]⟩]) 0 ⟨eS, eS, [], eS⟩ :=
 ⟨none, 0, rfl, Nat.le_refl _, StrsAt.nil _ _ _ _⟩
theorem ReadEnd.no {o : Option Bd} {k : Int} {w w' : World} {e : Ending} (h : o = none) (he : e = .returned (.tuple #[.agg #[.int .i64 0, .string ⟨#[]⟩, .string ⟨#[]⟩, .slice none 0 0, .string ⟨#[]⟩], .bool false])) (hb : Below w.heap.size w w') : ReadEnd o k w e w' := by
 subst h
 exact ⟨_, he, hb, 0, _, z_mY _ _ _, fun d hd => by cases hd⟩
theorem ReadEnd.yes {o : Option Bd} {k : Int} {w w' : World} {e : Ending} {v : Value} {d : Bd} (h : o = some d) (he : e = .returned (.tuple #[v, .bool true])) (hb : Below w.heap.size w w') (hv : z_nG w.heap.size w'.heap.size w' v k d) : ReadEnd o k w e w' := by
 subst h
 exact ⟨v, he, hb, k, d, hv, fun d' hd => by cases hd; exact ⟨rfl, rfl⟩⟩
theorem box5 {w w1 : World} {x0 x1 x2 x3 x4 : Value} {t : TypeId} (hb : Below (w.alloc (.cells #[x0, x1, x2, x3, x4] t)).heap.size (w.alloc (.cells #[x0, x1, x2, x3, x4] t)) w1) :
  (w1.cell? ⟨w.heap.size, 0, none⟩ = some x0 ∧ w1.cell? ⟨w.heap.size, 1, none⟩ = some x1 ∧ w1.cell? ⟨w.heap.size, 2, none⟩ = some x2 ∧ w1.cell? ⟨w.heap.size, 3, none⟩ = some x3 ∧ w1.cell? ⟨w.heap.size, 4, none⟩ = some x4) ∧ (∀ o, w1.frozen? ⟨w.heap.size, o, none⟩ = false) ∧ w.heap.size < w1.heap.size := by
 have hs := hb.size
 simp at hs
 refine ⟨⟨?_, ?_, ?_, ?_, ?_⟩, ?_, by omega⟩
 ·rw [hb.cell (by simp)]; simp [go_sem]
 ·rw [hb.cell (by simp)]; simp [go_sem]
 ·rw [hb.cell (by simp)]; simp [go_sem]
 ·rw [hb.cell (by simp)]; simp [go_sem]
 ·rw [hb.cell (by simp)]; simp [go_sem]
 ·intro o; rw [hb.frozen (by simp)]; simp [go_sem]
theorem z_bP (ao : Option Addr) (cap : Nat) (ws : List ByteArray) (w : World) (hl : ws.length ≤ 4398046511104) :
  Calls Tryz.prog 186 #[.slice ao ws.length cap] w fun e w' => ReadEnd (pNothing ws) 0 w e w' := by
 by_cases h0 : ws.length = 0
 ·have e : ws = [] := List.length_eq_zero_iff.1 h0
  subst e
  go_enter Tryz.func186, Tryz.ntmps186
  go_wp2
  refine bodyPost_ret (v := .tuple #[.agg #[.int .i64 0, .string ⟨#[]⟩, .string ⟨#[]⟩, .slice none 0 0, .string ⟨#[]⟩], .bool true]) (by simp [results, Tryz.results186, go_sem]) rfl ?_
  exact ReadEnd.yes rfl rfl ((Below.refl _ _).alloc (Nat.le_refl _) _) (z_mY _ _ _)
 ·have HN : Hid (pNothing ws = none) := by cases ws with
   | nil => simp at h0
   | cons a r => rfl
  have hq : ((ws.length : Int) == 0) = false := by simp; intro h; subst h; simp at h0
  go_enter Tryz.func186, Tryz.ntmps186
  go_wp2
  refine bodyPost_ret (v := .tuple #[.agg #[.int .i64 0, .string ⟨#[]⟩, .string ⟨#[]⟩, .slice none 0 0, .string ⟨#[]⟩], .bool false]) (by simp [results, Tryz.results186, go_sem]) rfl ?_
  exact ReadEnd.no HN.out rfl ((Below.refl _ _).alloc (Nat.le_refl _) _)
theorem z_nT {ws : List ByteArray} (h : ws.length = 1) : ∃ a, ws = [a] := List.length_eq_one_iff.1 h
theorem z_gP (ao : Option Addr) (cap : Nat) (ws : List ByteArray) (w : World) (hl : ws.length ≤ 4398046511104) (hs : ∀ s ∈ ws, s.size ≤ 2199023255552) (hi : StrsAt 0 w.heap.size w ao ws) :
  Calls Tryz.prog 188 #[.slice ao ws.length cap] w fun e w' => ReadEnd (pPatch ws) 0 w e w' := by
 by_cases h1 : ws.length = 1
 ·obtain ⟨a, rfl⟩ := z_nT h1
  have hsa := hs a (by simp)
  obtain ⟨b, off, rfl, hB, hc0⟩ := hi.at 0 (by simp)
  have hc : w.cell? ⟨b, off, none⟩ = some (.string a) := hc0
  obtain ⟨_, hBw⟩ := hB
  clear hc0 hi hs
  have hca : ∀ o, (w.alloc o).cell? ⟨b, off, none⟩ = some (.string a) := fun o => by rw [World.cell?_alloc_past _ _ _ hBw]; exact hc
  cases hn : z_ac a with
  | true =>
   have HN : Hid (pPatch [a] = some ⟨eS, a, [], eS⟩) := by simp [Hid, pPatch, hn]
   go_enter Tryz.func188, Tryz.ntmps188
   go_wp2_with fail
   refine (z_aP _ _ (by omega)).mono ?_
   rintro e w1 ⟨rfl, hb1⟩
   rw [hn]
   obtain ⟨⟨x0, x1, x2, x3, x4⟩, hf, hlt⟩ := box5 hb1
   have hc1 : w1.cell? ⟨b, off, none⟩ = some (.string a) := by rw [hb1.cell (by simp; omega)]; exact hca _
   have HB : Hid (Below w.heap.size w w1) := ((Below.refl _ _).alloc (Nat.le_refl _) _).trans (hb1.mono (by simp))
   clear hb1 hca
   go_wp2
   refine bodyPost_ret (v := .tuple #[.agg #[.int .i64 0, .string ⟨#[]⟩, .string a, .slice none 0 0, .string ⟨#[]⟩], .bool true]) (by simp [results, Tryz.results188, go_sem, x0, x1, x2, x3, x4]) rfl ?_
   exact ReadEnd.yes HN.out rfl (z_aw _ (Nat.le_refl _) HB.out) ⟨none, 0, rfl, Nat.le_refl _, StrsAt.nil _ _ _ _⟩
  | false =>
   have HN : Hid (pPatch [a] = none) := by simp [Hid, pPatch, hn]
   go_enter Tryz.func188, Tryz.ntmps188
   go_wp2_with fail
   refine (z_aP _ _ (by omega)).mono ?_
   rintro e w1 ⟨rfl, hb1⟩
   rw [hn]
   obtain ⟨⟨x0, x1, x2, x3, x4⟩, hf, hlt⟩ := box5 hb1
   have HB : Hid (Below w.heap.size w w1) := ((Below.refl _ _).alloc (Nat.le_refl _) _).trans (hb1.mono (by simp))
   clear hb1 hca
   go_wp2
   refine bodyPost_ret (v := .tuple #[.agg #[.int .i64 0, .string ⟨#[]⟩, .string ⟨#[]⟩, .slice none 0 0, .string ⟨#[]⟩], .bool false]) (by simp [results, Tryz.results188, go_sem, x0, x1, x2, x3, x4]) rfl ?_
   exact ReadEnd.no HN.out rfl (z_aw _ (Nat.le_refl _) HB.out)
 ·have HN : Hid (pPatch ws = none) := by
   match ws, h1 with
   | [], _ => rfl
   | [a], h1 => simp at h1
   | a :: b :: r, _ => rfl
  have hq : ((ws.length : Int) == 1) = false := by simp; omega
  go_enter Tryz.func188, Tryz.ntmps188
  go_wp2
  refine bodyPost_ret (v := .tuple #[.agg #[.int .i64 0, .string ⟨#[]⟩, .string ⟨#[]⟩, .slice none 0 0, .string ⟨#[]⟩], .bool false]) (by simp [results, Tryz.results188, go_sem]) rfl ?_
  exact ReadEnd.no HN.out rfl ((Below.refl _ _).alloc (Nat.le_refl _) _)
theorem z_ei (ao : Option Addr) (cap : Nat) (ws : List ByteArray) (w : World) (hl : ws.length ≤ 4398046511104) (hs : ∀ s ∈ ws, s.size ≤ 2199023255552) (hi : StrsAt 0 w.heap.size w ao ws) (he : Env w) :
  Calls Tryz.prog 189 #[.slice ao ws.length cap] w fun e w' => ReadEnd (pNext ws) 0 w e w' := by
 have HI : Hid (StrsAt 0 w.heap.size w ao ws) := hi
 have HS : Hid (∀ s ∈ ws, s.size ≤ 2199023255552) := hs
 have HE : Hid (Env w) := he
 clear hi hs he
 by_cases h3 : ws.length ≤ 3
 ·cases ha : allB z_an ws with
  | true =>
   have HN : Hid (pNext ws = some ⟨eS, eS, ws, eS⟩) := by simp [Hid, pNext, h3, ha]
   go_enter Tryz.func189, Tryz.ntmps189
   go_wp2_with fail
   refine (z_ar _ _ _ w.heap.size _ (by simp) (by omega) HS.out (HE.out.later ((Below.refl _ _).alloc (Nat.le_refl _) _)) (HI.out.below ((Below.refl _ _).alloc (Nat.le_refl _) _))).mono ?_
   rintro e w1 ⟨rfl, hb1⟩
   rw [ha]
   obtain ⟨⟨x0, x1, x2, x3, x4⟩, hf, hlt⟩ := box5 hb1
   have HB : Hid (Below w.heap.size w w1) := ((Below.refl _ _).alloc (Nat.le_refl _) _).trans (hb1.mono (by simp))
   clear hb1
   go_wp2_with fail
   refine (z_bc _ _ _ _ hl (HI.out.later HB.out)).mono ?_
   rintro e w2 ⟨v, rfl, hb2, hv⟩
   obtain ⟨hc2, hf2⟩ := z_ch hb2
   rw [← hc2 _ _ hlt] at x0 x1 x2 x3 x4
   have hfz : ∀ o, w2.frozen? ⟨w.heap.size, o, none⟩ = false := fun o => by rw [hf2 _ _ hlt]; exact hf o
   have HB2 : Hid (Below w.heap.size w w2) := HB.out.trans (hb2.mono (by omega))
   have hlt2 : w.heap.size < w2.heap.size := by have := hb2.size; omega
   obtain ⟨bo, cap', rfl, hcp, hv⟩ := hv
   have HV : Hid (StrsAt (w.heap.size + 1) w2.heap.size w2 bo ws) := hv.mono (by omega) (Nat.le_refl _)
   clear hb2 hc2 hf2 hf hv
   go_wp2
   refine bodyPost_ret (v := .tuple #[.agg #[.int .i64 0, .string ⟨#[]⟩, .string ⟨#[]⟩, .slice bo ws.length cap', .string ⟨#[]⟩], .bool true]) (by simp [results, Tryz.results189, go_sem, x0, x1, x2, x3, x4]) rfl ?_
   exact ReadEnd.yes HN.out rfl (z_aw _ (Nat.le_refl _) HB2.out) ⟨bo, cap', rfl, hcp, by rw [z_bu]; exact (HV.out.set5 _ (.inl (by omega))).mono (by omega) (Nat.le_refl _)⟩
  | false =>
   have HN : Hid (pNext ws = none) := by simp [Hid, pNext, ha]
   go_enter Tryz.func189, Tryz.ntmps189
   go_wp2_with fail
   refine (z_ar _ _ _ w.heap.size _ (by simp) (by omega) HS.out (HE.out.later ((Below.refl _ _).alloc (Nat.le_refl _) _)) (HI.out.below ((Below.refl _ _).alloc (Nat.le_refl _) _))).mono ?_
   rintro e w1 ⟨rfl, hb1⟩
   rw [ha]
   obtain ⟨⟨x0, x1, x2, x3, x4⟩, hf, hlt⟩ := box5 hb1
   have HB : Hid (Below w.heap.size w w1) := ((Below.refl _ _).alloc (Nat.le_refl _) _).trans (hb1.mono (by simp))
   clear hb1
   go_wp2
   refine bodyPost_ret (v := .tuple #[.agg #[.int .i64 0, .string ⟨#[]⟩, .string ⟨#[]⟩, .slice none 0 0, .string ⟨#[]⟩], .bool false]) (by simp [results, Tryz.results189, go_sem, x0, x1, x2, x3, x4]) rfl ?_
   exact ReadEnd.no HN.out rfl (z_aw _ (Nat.le_refl _) HB.out)
 ·have HN : Hid (pNext ws = none) := by simp [Hid, pNext, h3]
  go_enter Tryz.func189, Tryz.ntmps189
  go_wp2
  refine bodyPost_ret (v := .tuple #[.agg #[.int .i64 0, .string ⟨#[]⟩, .string ⟨#[]⟩, .slice none 0 0, .string ⟨#[]⟩], .bool false]) (by simp [results, Tryz.results189, go_sem]) rfl ?_
  exact ReadEnd.no HN.out rfl ((Below.refl _ _).alloc (Nat.le_refl _) _)
theorem z_cq (ao : Option Addr) (cap : Nat) (ws : List ByteArray) (w : World) (hl : ws.length ≤ 4398046511104) (hs : ∀ s ∈ ws, s.size ≤ 2199023255552) (hi : StrsAt 0 w.heap.size w ao ws) (he : Env w) :
  Calls Tryz.prog 187 #[.slice ao ws.length cap] w fun e w' => ReadEnd (pOperand ws) 0 w e w' := by
 have HI : Hid (StrsAt 0 w.heap.size w ao ws) := hi
 have HS : Hid (∀ s ∈ ws, s.size ≤ 2199023255552) := hs
 have HE : Hid (Env w) := he
 clear hi hs he
 by_cases h1 : ws.length = 1
 ·have HN : Hid (pOperand ws = pNext ws) := by simp [Hid, pOperand, h1]
  have hq : ((ws.length : Int) == 1) = true := by simp; omega
  have h2 : 1 ≤ ws.length := by omega
  have h3 : ws.length ≤ 1 := by omega
  clear h1
  go_enter Tryz.func187, Tryz.ntmps187
  go_wp2_with fail
  refine (z_ei _ _ _ _ hl HS.out (HI.out.later ((Below.refl _ _).alloc (Nat.le_refl _) _)) (HE.out.later ((Below.refl _ _).alloc (Nat.le_refl _) _))).mono ?_
  rintro e w1 ⟨v, rfl, hb1, k', d', hv, hd⟩
  obtain ⟨⟨x0, x1, x2, x3, x4⟩, hf, hlt⟩ := box5 hb1
  have HB : Hid (Below w.heap.size w w1) := ((Below.refl _ _).alloc (Nat.le_refl _) _).trans (hb1.mono (by simp))
  obtain ⟨bo, cap', rfl, hcp, hv⟩ := hv
  simp at hv
  have HV : Hid (StrsAt (w.heap.size + 1) w1.heap.size w1 bo d'.args) := hv
  have HD : Hid (∀ d, pNext ws = some d → d' = d ∧ k' = 0) := hd
  clear hb1 hv hd
  go_wp2
  refine bodyPost_ret (v := .tuple #[.agg #[.int .i64 k', .string d'.to, .string d'.name, .slice bo d'.args.length cap', .string d'.undo], .bool (pNext ws).isSome]) (by simp [results, Tryz.results187, go_sem, x0, x1, x2, x3, x4]) rfl ?_
  rw [HN.out]
  exact ⟨_, rfl, z_aw _ (Nat.le_refl _) HB.out, k', d', ⟨bo, cap', rfl, hcp, by rw [z_bu]; exact (HV.out.set5 _ (.inl (by omega))).mono (by omega) (Nat.le_refl _)⟩, HD.out⟩
 ·have HN : Hid (pOperand ws = none) := by simp [Hid, pOperand, h1]
  have hq : ((ws.length : Int) == 1) = false := by simp; omega
  go_enter Tryz.func187, Tryz.ntmps187
  go_wp2
  refine bodyPost_ret (v := .tuple #[.agg #[.int .i64 0, .string ⟨#[]⟩, .string ⟨#[]⟩, .slice none 0 0, .string ⟨#[]⟩], .bool false]) (by simp [results, Tryz.results187, go_sem]) rfl ?_
  exact ReadEnd.no HN.out rfl ((Below.refl _ _).alloc (Nat.le_refl _) _)
end
section
open Go.RowKit
theorem z_mK {ws : List ByteArray} (h : ws.length = 3) : ∃ a b c, ws = [a, b, c] := by
 match ws, h with
 | [a, b, c], _ => exact ⟨a, b, c, rfl⟩
theorem StrsAt.drew {w : World} {A B : Nat} {ao : Option Addr} {ss : List ByteArray} (h : StrsAt A B w ao ss) : StrsAt A B w.drew ao ss := h
theorem StrsAt.two {w : World} {g : Nat} {A : Nat} (a b : ByteArray) (t : TypeId) (hg : g = w.heap.size) (hA : A ≤ g) : StrsAt A (w.alloc (.cells #[.string a, .string b] t)).heap.size (w.alloc (.cells #[.string a, .string b] t)) (some ⟨g, 0, none⟩) [a, b] := by
 intro k hk
 subst hg
 refine ⟨w.heap.size, 0, rfl, ⟨hA, by simp⟩, ?_⟩
 match k, hk with
 | 0, _ => simp
 | 1, _ => simp
theorem z_il (ao : Option Addr) (cap : Nat) (a t b : ByteArray) (w : World) (hsa : a.size ≤ 2199023255552) (hsb : b.size ≤ 2199023255552) (hi : StrsAt 0 w.heap.size w ao [a, t, b]) (he : Env w)
  (ha : z_an a = true) (ht : z_cC t = true) (hb : z_an b = true) :
  Calls Tryz.prog 185 #[.slice ao 3 cap] w fun e w' => ReadEnd (pTest [a, t, b]) 0 w e w' := by
 have HN : Hid (pTest [a, t, b] = some ⟨eS, t, [a, b], eS⟩) := by simp [Hid, pTest, ha, hb, ht]
 obtain ⟨g, off, rfl, hB, hc0⟩ := hi.at 0 (by simp)
 obtain ⟨g', off', e1, _, hc1⟩ := hi.at 1 (by simp)
 obtain ⟨g'', off'', e2, _, hc2⟩ := hi.at 2 (by simp)
 cases e1; cases e2
 obtain ⟨_, hBw⟩ := hB
 have c0 : w.cell? ⟨g, off, none⟩ = some (.string a) := hc0
 have c1 : w.cell? ⟨g, off + 1, none⟩ = some (.string t) := hc1
 have c2 : w.cell? ⟨g, off + 2, none⟩ = some (.string b) := hc2
 have HE : Hid (Env w) := he
 clear hc0 hc1 hc2 hi he
 have a0 : ∀ o, (w.alloc o).cell? ⟨g, off, none⟩ = some (.string a) := fun o => by rw [World.cell?_alloc_past _ _ _ hBw]; exact c0
 go_enter Tryz.func185, Tryz.ntmps185
 go_wp2_with fail
 refine (z_aU _ _ hsa (HE.out.later ((Below.refl _ _).alloc (Nat.le_refl _) _))).mono ?_
 rintro e w1 ⟨rfl, hb1⟩
 rw [ha]
 obtain ⟨⟨x0, x1, x2, x3, x4⟩, hf, hlt⟩ := box5 hb1
 have HB : Below w.heap.size w w1 := ((Below.refl _ _).alloc (Nat.le_refl _) _).trans (hb1.mono (by simp))
 rw [← HB.cell (p := ⟨g, off, none⟩) hBw] at c0
 rw [← HB.cell (p := ⟨g, off + 1, none⟩) hBw] at c1
 rw [← HB.cell (p := ⟨g, off + 2, none⟩) hBw] at c2
 have HB1 : Hid (Below w.heap.size w w1) := HB
 clear hb1 HB a0
 go_wp2_with fail
 refine (z_ea _ _).mono ?_
 rintro e w' ⟨rfl, rfl⟩
 rw [ht]
 go_wp2_with fail
 refine (z_aU _ _ hsb (HE.out.later HB1.out)).mono ?_
 rintro e w2 ⟨rfl, hb2⟩
 rw [hb]
 obtain ⟨hc2, hf2⟩ := z_ch hb2
 rw [← hc2 _ _ hlt] at x0 x1 x2 x3 x4
 rw [← hc2 _ _ (by omega)] at c0 c1 c2
 have hfz : ∀ o, w2.frozen? ⟨w.heap.size, o, none⟩ = false := fun o => by rw [hf2 _ _ hlt]; exact hf o
 have HB2 : Hid (Below w.heap.size w w2) := HB1.out.trans (hb2.mono (by omega))
 have hlt2 : w.heap.size < w2.heap.size := by have := hb2.size; omega
 have hg2 : g < w2.heap.size := by omega
 clear hb2 hc2 hf2 hf
 go_wp2_with fail
 go_region
 all_goals
  go_wp2
  refine bodyPost_ret (v := .tuple #[.agg #[.int .i64 0, .string ⟨#[]⟩, .string t, .slice (some ⟨w2.heap.size, 0, none⟩) 2 2, .string ⟨#[]⟩], .bool true]) (by simp [results, Tryz.results185, go_sem, x0, x1, x2, x3, x4, hlt2]) rfl ?_
  refine ReadEnd.yes (v := .agg #[.int .i64 0, .string ⟨#[]⟩, .string t, .slice (some ⟨w2.heap.size, 0, none⟩) 2 2, .string ⟨#[]⟩]) HN.out rfl ?_ ?_
  ·refine Below.drew ?_
   refine Below.alloc ?_ ?_ _
   ·exact z_aw _ (Nat.le_refl _) HB2.out
   ·rw [z_bu]; omega
  ·refine ⟨some ⟨w2.heap.size, 0, none⟩, 2, rfl, Nat.le_refl _, ?_⟩
   exact StrsAt.drew (StrsAt.two a b _ (by rw [z_bu]) (by omega))
theorem z_iJ (ao : Option Addr) (cap : Nat) (a t b : ByteArray) (w : World) (hsa : a.size ≤ 2199023255552) (hsb : b.size ≤ 2199023255552) (hi : StrsAt 0 w.heap.size w ao [a, t, b]) (he : Env w)
  (ha : z_an a = true) (ht : z_cC t = true) (hb : z_an b = false) :
  Calls Tryz.prog 185 #[.slice ao 3 cap] w fun e w' => ReadEnd (pTest [a, t, b]) 0 w e w' := by
 have HN : Hid (pTest [a, t, b] = none) := by simp [Hid, pTest, hb]
 obtain ⟨g, off, rfl, hB, hc0⟩ := hi.at 0 (by simp)
 obtain ⟨g', off', e1, _, hc1⟩ := hi.at 1 (by simp)
 obtain ⟨g'', off'', e2, _, hc2⟩ := hi.at 2 (by simp)
 cases e1; cases e2
 obtain ⟨_, hBw⟩ := hB
 have c0 : w.cell? ⟨g, off, none⟩ = some (.string a) := hc0
 have c1 : w.cell? ⟨g, off + 1, none⟩ = some (.string t) := hc1
 have c2 : w.cell? ⟨g, off + 2, none⟩ = some (.string b) := hc2
 have HE : Hid (Env w) := he
 clear hc0 hc1 hc2 hi he
 have a0 : ∀ o, (w.alloc o).cell? ⟨g, off, none⟩ = some (.string a) := fun o => by rw [World.cell?_alloc_past _ _ _ hBw]; exact c0
 go_enter Tryz.func185, Tryz.ntmps185
 go_wp2_with fail
 refine (z_aU _ _ hsa (HE.out.later ((Below.refl _ _).alloc (Nat.le_refl _) _))).mono ?_
 rintro e w1 ⟨rfl, hb1⟩
 rw [ha]
 obtain ⟨⟨x0, x1, x2, x3, x4⟩, hf, hlt⟩ := box5 hb1
 have HB : Below w.heap.size w w1 := ((Below.refl _ _).alloc (Nat.le_refl _) _).trans (hb1.mono (by simp))
 rw [← HB.cell (p := ⟨g, off, none⟩) hBw] at c0
 rw [← HB.cell (p := ⟨g, off + 1, none⟩) hBw] at c1
 rw [← HB.cell (p := ⟨g, off + 2, none⟩) hBw] at c2
 have HB1 : Hid (Below w.heap.size w w1) := HB
 clear hb1 HB a0
 go_wp2_with fail
 refine (z_ea _ _).mono ?_
 rintro e w' ⟨rfl, rfl⟩
 rw [ht]
 go_wp2_with fail
 refine (z_aU _ _ hsb (HE.out.later HB1.out)).mono ?_
 rintro e w2 ⟨rfl, hb2⟩
 rw [hb]
 obtain ⟨hc2, hf2⟩ := z_ch hb2
 rw [← hc2 _ _ hlt] at x0 x1 x2 x3 x4
 rw [← hc2 _ _ (by omega)] at c0 c1 c2
 have hfz : ∀ o, w2.frozen? ⟨w.heap.size, o, none⟩ = false := fun o => by rw [hf2 _ _ hlt]; exact hf o
 have HB2 : Hid (Below w.heap.size w w2) := HB1.out.trans (hb2.mono (by omega))
 have hlt2 : w.heap.size < w2.heap.size := by have := hb2.size; omega
 have hg2 : g < w2.heap.size := by omega
 clear hb2 hc2 hf2 hf
 go_wp2
 refine bodyPost_ret (v := .tuple #[.agg #[.int .i64 0, .string ⟨#[]⟩, .string ⟨#[]⟩, .slice none 0 0, .string ⟨#[]⟩], .bool false]) (by simp [results, Tryz.results185, go_sem, x0, x1, x2, x3, x4]) rfl ?_
 exact ReadEnd.no HN.out rfl (z_aw _ (Nat.le_refl _) HB2.out)
theorem z_im (ao : Option Addr) (cap : Nat) (a t b : ByteArray) (w : World) (hsa : a.size ≤ 2199023255552) (hi : StrsAt 0 w.heap.size w ao [a, t, b]) (he : Env w)
  (ha : z_an a = true) (ht : z_cC t = false) :
  Calls Tryz.prog 185 #[.slice ao 3 cap] w fun e w' => ReadEnd (pTest [a, t, b]) 0 w e w' := by
 have HN : Hid (pTest [a, t, b] = none) := by simp [Hid, pTest, ht]
 obtain ⟨g, off, rfl, hB, hc0⟩ := hi.at 0 (by simp)
 obtain ⟨g', off', e1, _, hc1⟩ := hi.at 1 (by simp)
 obtain ⟨g'', off'', e2, _, hc2⟩ := hi.at 2 (by simp)
 cases e1; cases e2
 obtain ⟨_, hBw⟩ := hB
 have c0 : w.cell? ⟨g, off, none⟩ = some (.string a) := hc0
 have c1 : w.cell? ⟨g, off + 1, none⟩ = some (.string t) := hc1
 have c2 : w.cell? ⟨g, off + 2, none⟩ = some (.string b) := hc2
 have HE : Hid (Env w) := he
 clear hc0 hc1 hc2 hi he
 have a0 : ∀ o, (w.alloc o).cell? ⟨g, off, none⟩ = some (.string a) := fun o => by rw [World.cell?_alloc_past _ _ _ hBw]; exact c0
 go_enter Tryz.func185, Tryz.ntmps185
 go_wp2_with fail
 refine (z_aU _ _ hsa (HE.out.later ((Below.refl _ _).alloc (Nat.le_refl _) _))).mono ?_
 rintro e w1 ⟨rfl, hb1⟩
 rw [ha]
 obtain ⟨⟨x0, x1, x2, x3, x4⟩, hf, hlt⟩ := box5 hb1
 have HB : Below w.heap.size w w1 := ((Below.refl _ _).alloc (Nat.le_refl _) _).trans (hb1.mono (by simp))
 rw [← HB.cell (p := ⟨g, off, none⟩) hBw] at c0
 rw [← HB.cell (p := ⟨g, off + 1, none⟩) hBw] at c1
 rw [← HB.cell (p := ⟨g, off + 2, none⟩) hBw] at c2
 have HB1 : Hid (Below w.heap.size w w1) := HB
 clear hb1 HB a0
 go_wp2_with fail
 refine (z_ea _ _).mono ?_
 rintro e w' ⟨rfl, rfl⟩
 rw [ht]
 go_wp2
 refine bodyPost_ret (v := .tuple #[.agg #[.int .i64 0, .string ⟨#[]⟩, .string ⟨#[]⟩, .slice none 0 0, .string ⟨#[]⟩], .bool false]) (by simp [results, Tryz.results185, go_sem, x0, x1, x2, x3, x4]) rfl ?_
 exact ReadEnd.no HN.out rfl (z_aw _ (Nat.le_refl _) HB1.out)
theorem z_iR (ao : Option Addr) (cap : Nat) (a t b : ByteArray) (w : World) (hsa : a.size ≤ 2199023255552) (hi : StrsAt 0 w.heap.size w ao [a, t, b]) (he : Env w)
  (ha : z_an a = false) :
  Calls Tryz.prog 185 #[.slice ao 3 cap] w fun e w' => ReadEnd (pTest [a, t, b]) 0 w e w' := by
 have HN : Hid (pTest [a, t, b] = none) := by simp [Hid, pTest, ha]
 obtain ⟨g, off, rfl, hB, hc0⟩ := hi.at 0 (by simp)
 obtain ⟨g', off', e1, _, hc1⟩ := hi.at 1 (by simp)
 obtain ⟨g'', off'', e2, _, hc2⟩ := hi.at 2 (by simp)
 cases e1; cases e2
 obtain ⟨_, hBw⟩ := hB
 have c0 : w.cell? ⟨g, off, none⟩ = some (.string a) := hc0
 have c1 : w.cell? ⟨g, off + 1, none⟩ = some (.string t) := hc1
 have c2 : w.cell? ⟨g, off + 2, none⟩ = some (.string b) := hc2
 have HE : Hid (Env w) := he
 clear hc0 hc1 hc2 hi he
 have a0 : ∀ o, (w.alloc o).cell? ⟨g, off, none⟩ = some (.string a) := fun o => by rw [World.cell?_alloc_past _ _ _ hBw]; exact c0
 go_enter Tryz.func185, Tryz.ntmps185
 go_wp2_with fail
 refine (z_aU _ _ hsa (HE.out.later ((Below.refl _ _).alloc (Nat.le_refl _) _))).mono ?_
 rintro e w1 ⟨rfl, hb1⟩
 rw [ha]
 obtain ⟨⟨x0, x1, x2, x3, x4⟩, hf, hlt⟩ := box5 hb1
 have HB : Below w.heap.size w w1 := ((Below.refl _ _).alloc (Nat.le_refl _) _).trans (hb1.mono (by simp))
 rw [← HB.cell (p := ⟨g, off, none⟩) hBw] at c0
 rw [← HB.cell (p := ⟨g, off + 1, none⟩) hBw] at c1
 rw [← HB.cell (p := ⟨g, off + 2, none⟩) hBw] at c2
 have HB1 : Hid (Below w.heap.size w w1) := HB
 clear hb1 HB a0
 go_wp2
 refine bodyPost_ret (v := .tuple #[.agg #[.int .i64 0, .string ⟨#[]⟩, .string ⟨#[]⟩, .slice none 0 0, .string ⟨#[]⟩], .bool false]) (by simp [results, Tryz.results185, go_sem, x0, x1, x2, x3, x4]) rfl ?_
 exact ReadEnd.no HN.out rfl (z_aw _ (Nat.le_refl _) HB1.out)
theorem z_ej (ao : Option Addr) (cap : Nat) (ws : List ByteArray) (w : World) (hl : ws.length ≤ 4398046511104) (hs : ∀ s ∈ ws, s.size ≤ 2199023255552) (hi : StrsAt 0 w.heap.size w ao ws) (he : Env w) :
  Calls Tryz.prog 185 #[.slice ao ws.length cap] w fun e w' => ReadEnd (pTest ws) 0 w e w' := by
 by_cases h3 : ws.length = 3
 ·obtain ⟨a, t, b, rfl⟩ := z_mK h3
  have hsa := hs a (by simp)
  have hsb := hs b (by simp)
  cases ha : z_an a with
  | false => exact z_iR ao cap a t b w hsa hi he ha
  | true =>
   cases ht : z_cC t with
   | false => exact z_im ao cap a t b w hsa hi he ha ht
   | true =>
    cases hb : z_an b with
    | false => exact z_iJ ao cap a t b w hsa hsb hi he ha ht hb
    | true => exact z_il ao cap a t b w hsa hsb hi he ha ht hb
 ·have HN : Hid (pTest ws = none) := by
   match ws, h3 with
   | [], _ => rfl
   | [_], _ => rfl
   | [_, _], _ => rfl
   | [a, b, c], h3 => exact absurd rfl h3
   | _ :: _ :: _ :: _ :: _, _ => rfl
  have hq : ((ws.length : Int) == 3) = false := by simp; omega
  go_enter Tryz.func185, Tryz.ntmps185
  go_wp2
  refine bodyPost_ret (v := .tuple #[.agg #[.int .i64 0, .string ⟨#[]⟩, .string ⟨#[]⟩, .slice none 0 0, .string ⟨#[]⟩], .bool false]) (by simp [results, Tryz.results185, go_sem]) rfl ?_
  exact ReadEnd.no HN.out rfl ((Below.refl _ _).alloc (Nat.le_refl _) _)
end
section
open Go.RowKit
theorem z_fJ {w : World} {base : Nat} {e : TypeId} {size : Nat} {v : Value} {n : Nat} {xs : List Value} (h : w.ownsRow base e size v n xs) {k : Nat} (hk : k < base) (s : ByteArray) (p : Nat) : (w.iterAt k s p).ownsRow base e size v n xs := by
 obtain ⟨h1, h2⟩ := h
 refine ⟨h1, ?_⟩
 rcases h2 with h2 | ⟨g, cap, cur, a, b, c, d⟩
 ·exact .inl h2
 ·exact .inr ⟨g, cap, cur, a, b, by rw [Lib.iterAt_other _ _ _ _ _ (by omega)]; exact c, d⟩
theorem z_cH {w : World} {k : Nat} {s : ByteArray} {p : Nat} (h : w.heap[k]? = some (.stringIter s p)) : w.iterPos k = p := by simp [World.iterPos, h]
theorem z_eq {w : World} {k : Nat} {o : Obj} (h : w.heap[k]? = some o) : k < w.heap.size := (Array.getElem?_eq_some_iff.1 h).1
theorem cell_one_new (w : World) (a : Value) (t : TypeId) : ∀ j u, [a][j]? = some u → (w.alloc (.cells #[a] t)).cell? ((⟨w.heap.size, 0, none⟩ : Addr).add j) = some u := by
 intro j u hj
 match j, hj with
 | 0, hj => simp at hj; subst hj; simp [Addr.add]
 | j + 1, hj => simp at hj
theorem splitWords_any (s : ByteArray) (w : World) (hs : s.size ≤ 4398046511000) :
    Calls Tryz.prog 123 #[.string s] w fun e w' => ∃ v, e = .returned v ∧ Below w.heap.size w w' ∧ z_bd w.heap.size w'.heap.size w' v (wordsW s) := by
  obtain ⟨i0, hi0, hz0, hz1, hz2⟩ := info_parts Tryz.infoStr
  go_enter Tryz.func123, Tryz.ntmps123
  go_wp2
  go_loopw [3, 4] (fun v st wr => ∃ (pos fuel : Nat) (acc : List ByteArray) (x : Int), wr.heap[w.heap.size]? = some (.stringIter s pos) ∧ wr.ownsRow (w.heap.size + 1) 9 1 v acc.length (strCells acc) ∧ Below w.heap.size w wr ∧ st = .int .i64 x ∧ Hid (acc ++ cutSp s fuel pos x = wordsW s) ∧ pos + fuel = s.size ∧ acc.length ≤ pos ∧ -1 ≤ x ∧ x ≤ pos) (fun _ _ wr => s.size - wr.iterPos w.heap.size)
  case atStart => exact ⟨0, s.size, [], -1, World.iter_heap w s 0, World.ownsRow_nil _ _ _ _, (Below.refl _ _).alloc (Nat.le_refl _) _, rfl, rfl, by omega, by simp, by omega, by omega⟩
  case round =>
    obtain ⟨pos, fuel, acc, x, hit, hown, hbw, rfl, HS, hb, hlen, hx0, hx1⟩ := hrel
    have hpos0 := z_cH hit
    by_cases hp : pos < s.size
    · have hnx : ∀ ty, (Instr.next (.pointer (some ⟨w.heap.size, 0, none⟩)) true ty).run Tryz.prog wr = _ := fun ty => Lib.run_next_any_at wr w.heap.size s pos ty hit hp
      obtain ⟨hwd, hwe, hru⟩ := rune_at s pos hp
      have hrl := decode_le s pos
      obtain ⟨f, rfl⟩ : ∃ f, fuel = f + (Utf8.decode s pos).2 := ⟨fuel - (Utf8.decode s pos).2, by omega⟩
      have hit2 := Lib.iterAt_heap wr w.heap.size s pos (pos + (Utf8.decode s pos).2) hit
      have hbw2 := Lib.below_iterAt hbw (k := w.heap.size) (Nat.le_refl _) s (pos + (Utf8.decode s pos).2)
      have hown2 := z_fJ hown (k := w.heap.size) (by omega) s (pos + (Utf8.decode s pos).2)
      obtain ⟨W1, hW1⟩ : ∃ W1, W1 = wr.iterAt w.heap.size s (pos + (Utf8.decode s pos).2) := ⟨_, rfl⟩
      rw [← hW1] at hnx hit2 hbw2 hown2
      have hBlt := z_eq hit2
      clear hW1 hit hown hbw
      obtain ⟨r, hr⟩ : ∃ r, r = (Utf8.decode s pos).1 := ⟨_, rfl⟩
      obtain ⟨wd, hwd'⟩ : ∃ wd, wd = (Utf8.decode s pos).2 := ⟨_, rfl⟩
      rw [← hr, ← hwd'] at hru
      rw [← hr] at hrl hnx
      rw [← hwd'] at hwd hwe HS hb hit2
      clear hr hwd'
      rcases hru with ⟨rfl, rfl, hsp⟩ | ⟨hr1, hsk⟩
      · by_cases hx : 0 ≤ x
        · have HN : Hid ((acc ++ [s.extract x.toNat pos]) ++ cutSp s f (pos + 1) (-1) = wordsW s) := by
            show _ = _
            rw [← HS.out, z_fV hsp hx, List.append_assoc]; rfl
          have hx9 : ¬ x < 0 := by omega
          clear hsp
          go_wp2_with (first
            | (at_builtin; refine wpList_append_own _ rfl _ _ 45 rfl (w.heap.size + 1) 9 i0 (.string ByteArray.empty) 1 16 Tryz.underlying45 hi0 hz0 hz1 hz2 rfl (by decide) _ _ _ rfl (hown2.alloc _) ⟨W1.heap.size, 0, none⟩ 1 1 [.string (s.extract x.toNat pos)] rfl rfl (cell_one_new _ _ _) (fun u hu => by simp at hu; subst hu; rfl) (by unfold maxLen; omega) (by omega) (by simp; omega) ?_; intro v' w3 hown' hgrow3 hnil3
               have hit3 : w3.heap[w.heap.size]? = some (.stringIter s (pos + 1)) := by
                 rw [hgrow3.block w.heap.size (by simp; omega) (fun h => by have := (hown2.lt _ h.symm).1; omega), Below.heap_alloc _ _ _ hBlt]; exact hit2
               have hbw3 : Below w.heap.size w w3 := Below.grown (hbw2.alloc (by omega) _) hgrow3 (by simp; omega) (fun j hj => by have := (hown2.lt _ hj).1; omega)
               have X : Aside (w3.ownsRow (w.heap.size + 1) 9 1 v' (acc ++ [s.extract x.toNat pos]).length (strCells (acc ++ [s.extract x.toNat pos])) ∧ w3.heap[w.heap.size]? = some (.stringIter s (pos + 1)) ∧ Below w.heap.size w w3) := ⟨by simpa [strCells] using hown', hit3, hbw3⟩
               clear hown' hgrow3 hnil3 hit3 hbw3))
          go_roundw
          case rel => exact ⟨pos + 1, f, _, -1, X.out.2.1, X.out.1, X.out.2.2, rfl, HN, by omega, by simp; omega, by omega, by omega⟩
          case measure => rw [z_cH X.out.2.1, hpos0]; omega
        · have HN : Hid (acc ++ cutSp s f (pos + 1) (-1) = wordsW s) := by
            show _ = _
            rw [← HS.out, z_fn hsp (by omega)]
          have hx9 : x < 0 := by omega
          clear hsp
          go_wp2
          go_roundw
          case rel => exact ⟨pos + 1, f, acc, x, hit2, hown2, hbw2, rfl, (show Hid _ by rw [show x = -1 by omega]; exact HN), by omega, by omega, by omega, by omega⟩
          case measure => rw [z_cH hit2, hpos0]; omega
      · have hq : (((r : Nat) : Int) == 32) = false := by simp; omega
        by_cases hx : 0 ≤ x
        · have HN : Hid (acc ++ cutSp s f (pos + wd) x = wordsW s) := by
            show _ = _
            rw [← HS.out, z_d8 wd f pos x hx hsk]
          have hx9 : ¬ x < 0 := by omega
          clear hsk
          go_wp2
          go_roundw
          case rel => exact ⟨pos + wd, f, acc, x, hit2, hown2, hbw2, rfl, HN, by omega, by omega, by omega, by omega⟩
          case measure => rw [z_cH hit2, hpos0]; omega
        · have HN : Hid (acc ++ cutSp s f (pos + wd) pos = wordsW s) := by
            show _ = _
            rw [← HS.out, z_jP wd f pos x (by omega) hwd hsk]
          have hx9 : x < 0 := by omega
          clear hsk
          go_wp2
          go_roundw
          case rel => exact ⟨pos + wd, f, acc, pos, hit2, hown2, hbw2, rfl, HN, by omega, by omega, by omega, by omega⟩
          case measure => rw [z_cH hit2, hpos0]; omega
    · have hnx : ∀ ty, (Instr.next (.pointer (some ⟨w.heap.size, 0, none⟩)) true ty).run Tryz.prog wr = _ := fun ty => Lib.run_next_end_at wr w.heap.size s pos ty hit hp
      obtain rfl : fuel = 0 := by omega
      have hBlt := z_eq hit
      by_cases hx : 0 ≤ x
      · have HN : Hid (acc ++ [s.extract x.toNat s.size] = wordsW s) := by
          show _ = _
          rw [← HS.out, cutSp, if_pos hx]
        have hx1' : x ≤ s.size := by omega
        clear hit
        go_wp2_with (first
            | (at_builtin; refine wpList_append_own _ rfl _ _ 45 rfl (w.heap.size + 1) 9 i0 (.string ByteArray.empty) 1 16 Tryz.underlying45 hi0 hz0 hz1 hz2 rfl (by decide) _ _ _ rfl (hown.alloc _) ⟨wr.heap.size, 0, none⟩ 1 1 [.string (s.extract x.toNat s.size)] rfl rfl (cell_one_new _ _ _) (fun u hu => by simp at hu; subst hu; rfl) (by unfold maxLen; omega) (by omega) (by simp; omega) ?_; intro v' w3 hown' hgrow3 hnil3
               have hbw3 : Below w.heap.size w w3 := Below.grown (hbw.alloc (by omega) _) hgrow3 (by simp; omega) (fun j hj => by have := (hown.lt _ hj).1; omega)
               have X : Aside (w3.ownsRow (w.heap.size + 1) 9 1 v' (acc ++ [s.extract x.toNat s.size]).length (strCells (acc ++ [s.extract x.toNat s.size])) ∧ Below w.heap.size w w3) := ⟨by simpa [strCells] using hown', hbw3⟩
               clear hown' hgrow3 hnil3 hbw3))
        go_ret
        obtain ⟨ao, cap, e1, e2, e3⟩ := StrsAt.of_owns X.out.1
        rw [← HN.out]
        exact ⟨v', rfl, X.out.2, ao, cap, e1, e2, e3.mono (by omega) (Nat.le_refl _)⟩
      · have HN : Hid (acc = wordsW s) := by
          show _ = _
          rw [← HS.out, cutSp, if_neg hx, List.append_nil]
        go_wp2
        go_ret
        obtain ⟨ao, cap, e1, e2, e3⟩ := StrsAt.of_owns hown
        rw [← HN.out]
        exact ⟨_, rfl, hbw, ao, cap, e1, e2, e3.mono (by omega) (Nat.le_refl _)⟩
end
section
open Go.RowKit
def z_ay (ms : List ByteArray) : List ByteArray := ms.filter fun s => decide (s.size ≠ 0)
theorem z_dh (ms : List ByteArray) (k : Nat) (h : k < ms.length) : z_ay (ms.take (k + 1)) = z_ay (ms.take k) ++ z_ay [ms[k]] := by
 rw [List.take_succ_eq_append_getElem h, z_ay, List.filter_append]; rfl
theorem X_of {base g cap' g' W : Nat} {u : Value} {row : Option Nat} {A : List ByteArray} {x : ByteArray} {ms : List ByteArray} {w wr w3 : World} {t : TypeId} (ho : wr.ownsRow base 9 1 u A.length (strCells A)) (hb : Below base w wr)
  (hne : u.ownBlock ≠ some g) (hm : ∀ k (h : k < ms.length), wr.cell? ⟨g, k, none⟩ = some (.string (ms[k]'h))) (hws : W ≤ wr.heap.size) (hg : g < W) (hbase : base ≤ wr.heap.size)
  (hown : w3.ownsRow base 9 1 (.slice (some ⟨g', 0, none⟩) (A.length + 1) cap') (A.length + 1) (strCells A ++ [.string x])) (hgrow0 : (wr.alloc (.cells #[.string x] t)).grownBy w3 row)
  (hat0 : row = some g' ∨ g' = wr.heap.size + 1) (hrow : row = u.ownBlock) :
  Aside (w3.ownsRow base 9 1 (.slice (some ⟨g', 0, none⟩) (A.length + 1) cap') (A ++ [x]).length (strCells (A ++ [x])) ∧ Below base w w3 ∧ W ≤ w3.heap.size ∧ (Value.slice (some ⟨g', 0, none⟩) (A.length + 1) cap').ownBlock ≠ some g ∧ (∀ k (h : k < ms.length), w3.cell? ⟨g, k, none⟩ = some (.string (ms[k]'h)))) := by
 rw [hrow] at hgrow0 hat0
 have hgrow := hgrow0
 have hat := hat0
 have hbw3 : Below base w w3 := Below.grown (hb.alloc (by omega) _) hgrow (by simp; omega) (fun j hj => by have := (ho.lt _ hj).1; omega)
 refine ⟨by simpa [strCells] using hown, hbw3, ?_, ?_, ?_⟩
 ·have := hgrow.size; simp at this; omega
 ·intro h
  have h2 : g' = g := by simpa [Value.ownBlock] using h
  rcases hat with h3 | h3
  ·exact hne (by rw [h3, h2])
  ·omega
 ·intro j hj
  rw [hgrow.cell_far ⟨g, j, none⟩ (by simp; omega) (fun h => hne h.symm), Below.cell (p := ⟨g, j, none⟩) ((Below.refl _ _).alloc (Nat.le_refl _) _) (by show g < _; omega)]
  exact hm j hj
theorem z_dE (base g c : Nat) (v : Value) (acc ms : List ByteArray) (w : World) (hown : w.ownsRow base 9 1 v acc.length (strCells acc)) (hbase : base ≤ w.heap.size)
  (hm : ∀ k (h : k < ms.length), w.cell? ⟨g, k, none⟩ = some (.string (ms[k]'h))) (hg : g < w.heap.size) (hne : v.ownBlock ≠ some g) (hl : acc.length + ms.length ≤ 4398046511000) (hc : ms.length ≤ c) :
  Calls Tryz.prog 81 #[v, .slice (some ⟨g, 0, none⟩) ms.length c] w fun e w' => ∃ v', e = .returned v' ∧ Below base w w' ∧ w'.ownsRow base 9 1 v' (acc ++ z_ay ms).length (strCells (acc ++ z_ay ms)) := by
 obtain ⟨i0, hi0, hz0, hz1, hz2⟩ := info_parts Tryz.infoStr
 have HM : Hid (∀ k (h : k < ms.length), w.cell? ⟨g, k, none⟩ = some (.string (ms[k]'h))) := hm
 have HO : Hid (w.ownsRow base 9 1 v acc.length (strCells acc)) := hown
 have HNE : Hid (v.ownBlock ≠ some g) := hne
 clear hm hown hne
 go_enter Tryz.func81, Tryz.ntmps81
 go_wp2
 go_loopw [0, 9] (fun x i wr => ∃ (k : Nat), k ≤ ms.length ∧ i = .int .i64 k ∧ Hid (x.ownBlock ≠ some g) ∧ Hid (wr.ownsRow base 9 1 x (acc ++ z_ay (ms.take k)).length (strCells (acc ++ z_ay (ms.take k)))) ∧ Hid (Below base w wr) ∧ w.heap.size ≤ wr.heap.size ∧ Hid (∀ k (h : k < ms.length), wr.cell? ⟨g, k, none⟩ = some (.string (ms[k]'h)))) (fun _ i _ => ms.length - (intOf i).toNat)
 case atStart => exact ⟨0, Nat.zero_le _, rfl, HNE, by simpa [Hid, z_ay] using HO.out, Below.refl _ _, Nat.le_refl _, HM⟩
 case round =>
  obtain ⟨k, hk, rfl, HNE1, HO1, HB1, hws, HM1⟩ := hrel
  clear HM HO HNE
  by_cases hlt : k < ms.length
  ·have hc1 := HM1.out k hlt
   have hfl : (z_ay (ms.take k)).length ≤ k := Nat.le_trans (List.length_filter_le _ _) (by simp; omega)
   by_cases he : ms[k].size = 0
   ·have hq : ms[k] = ByteArray.empty := z_bD he
    have HF : Hid (z_ay (ms.take (k + 1)) = z_ay (ms.take k)) := by
     show _ = _; rw [z_dh _ _ hlt]; simp [z_ay, hq]
    rw [hq] at hc1
    clear he hq
    go_wp2
    go_roundw
    case rel => exact ⟨k + 1, by omega, by go_num, HNE1, (show Hid _ by rw [HF.out]; exact HO1), HB1, hws, HM1⟩
    case measure => simp [intOf]; omega
   ·obtain ⟨x, hx⟩ : ∃ x, x = ms[k] := ⟨_, rfl⟩
    have HF : Hid (acc ++ z_ay (ms.take (k + 1)) = (acc ++ z_ay (ms.take k)) ++ [x]) := by
     show _ = _; have he2 : ¬ ms[k] = ByteArray.empty := fun e => he (by rw [e]; rfl)
     rw [z_dh _ _ hlt, hx, List.append_assoc]; simp [z_ay, he2]
    have hq : x.toList.isEmpty = false := by rw [z_av, hx]; simpa using he
    have hq2 : (x.toList == []) = false := by rw [← hq]; cases x.toList <;> rfl
    rw [← hx] at hc1
    clear he hx
    have hfl2 : (acc ++ z_ay (ms.take k)).length ≤ acc.length + ms.length := by simp; omega
    obtain ⟨A, hA⟩ : ∃ A, A = acc ++ z_ay (ms.take k) := ⟨_, rfl⟩
    rw [← hA] at HO1 HF hfl2
    clear hA
    go_wp2_with (at_builtin; refine wpList_append_lies _ rfl _ _ 45 rfl base 9 i0 (.string ByteArray.empty) 1 16 Tryz.underlying45 hi0 hz0 hz1 hz2 rfl (by decide) _ _ _ rfl (HO1.out.alloc _) ⟨wr.heap.size, 0, none⟩ 1 1 [.string x] rfl rfl (cell_one_new _ _ _) (fun u hu => by simp at hu; subst hu; rfl) (by decide) (by unfold maxLen; omega) (by omega) (by simp; omega) (wr.heap.size + 1) (by simp) ?_; intro g' cap' w3 hown' hgrow3 hat3 hlt3; have X := X_of HO1.out HB1.out HNE1.out HM1.out hws hg (by omega) hown' hgrow3 hat3 (by rfl); clear hown' hgrow3 hat3 hlt3)
    go_roundw
    case rel => exact ⟨k + 1, by omega, by go_num, X.out.2.2.2.1, (show Hid _ by rw [HF.out]; exact X.out.1), X.out.2.1, X.out.2.2.1, X.out.2.2.2.2⟩
    case measure => simp [intOf]; omega
  ·have e0 : ms.take k = ms := List.take_of_length_le (by omega)
   rw [e0] at HO1
   go_wp2
   go_ret
   exact ⟨_, rfl, HB1.out, HO1.out⟩
end
end Go.Proofs.YtlbjjbolbopfmaaGreatDoor
