import Derived.Test.YtlbjjbolbopfmaaGreatDoorI03
namespace Go.Proofs.YtlbjjbolbopfmaaGreatDoor
set_option maxHeartbeats 1000000
set_option linter.unusedVariables false
open Go.RowKit
theorem z_fX (g off : Nat) (cap : Nat) (a b c : ByteArray) (r : List ByteArray) (w : World) (hl : r.length ≤ 4398046511000) (hs : ∀ s ∈ a :: b :: c :: r, s.size ≤ 2199023255552) (hi : StrsAt 0 w.heap.size w (some ⟨g, off, none⟩) (a :: b :: c :: r)) (he : Env w)
  (ha : z_ac a = false) :
  Calls Tryz.prog 182 #[.slice (some ⟨g, off, none⟩) (r.length + 3) cap] w fun e w' => ReadEnd (pLet (a :: b :: c :: r)) 0 w e w' := by
 obtain ⟨_, _, e0, hB, hc0⟩ := hi.at 0 (by simp)
 cases e0
 obtain ⟨_, _, e1, _, hc1⟩ := hi.at 1 (by simp)
 cases e1
 obtain ⟨_, hBw⟩ := hB
 have c0 : w.cell? ⟨g, off, none⟩ = some (.string a) := hc0
 have c1 : w.cell? ⟨g, off + 1, none⟩ = some (.string b) := hc1
 have HI : Hid (StrsAt 0 w.heap.size w (some ⟨g, off, none⟩) (a :: b :: c :: r)) := hi
 have HS : Hid (∀ s ∈ a :: b :: c :: r, s.size ≤ 2199023255552) := hs
 have HE : Hid (Env w) := he
 have hsa := hs a (by simp)
 have a0 : ∀ o, (w.alloc o).cell? ⟨g, off, none⟩ = some (.string a) := fun o => by rw [World.cell?_alloc_past _ _ _ hBw]; exact c0
 clear hc0 hc1 hi hs he
 go_enter Tryz.func182, Tryz.ntmps182
 go_wp2_with fail
 refine (z_aQ _ _ (by omega)).mono ?_
 rintro e w1 ⟨rfl, hb1⟩
 rw [ha]
 obtain ⟨⟨x0, x1, x2, x3, x4⟩, hf, hlt⟩ := box5 hb1
 have HB : Below w.heap.size w w1 := ((Below.refl _ _).alloc (Nat.le_refl _) _).trans (hb1.mono (by simp))
 rw [← HB.cell (p := ⟨g, off, none⟩) hBw] at c0
 rw [← HB.cell (p := ⟨g, off + 1, none⟩) hBw] at c1
 have HB1 : Hid (Below w.heap.size w w1) := HB
 have hg1 : g < w1.heap.size := by omega
 clear hb1 HB a0
 have HN : Hid (pLet (a :: b :: c :: r) = none) := by simp [Hid, pLet, ha]
 go_wp2
 refine bodyPost_ret (v := .tuple #[.agg #[.int .i64 0, .string ⟨#[]⟩, .string ⟨#[]⟩, .slice none 0 0, .string ⟨#[]⟩], .bool false]) (by simp [results, Tryz.results182, go_sem, x0, x1, x2, x3, x4]) rfl ?_
 exact ReadEnd.no HN.out rfl (z_aw _ (Nat.le_refl _) HB1.out)
theorem z_h0 (g off : Nat) (cap : Nat) (a b c : ByteArray) (r : List ByteArray) (w : World) (hcap : r.length + 3 ≤ cap) (hl : r.length ≤ 4398046511000) (hs : ∀ s ∈ a :: b :: c :: r, s.size ≤ 2199023255552) (hi : StrsAt 0 w.heap.size w (some ⟨g, off, none⟩) (a :: b :: c :: r)) (he : Env w)
  (ha : z_ac a = true) (hr : allB z_an (c :: r) = false) :
  Calls Tryz.prog 182 #[.slice (some ⟨g, off, none⟩) (r.length + 3) cap] w fun e w' => ReadEnd (pLet (a :: b :: c :: r)) 0 w e w' := by
 obtain ⟨_, _, e0, hB, hc0⟩ := hi.at 0 (by simp)
 cases e0
 obtain ⟨_, _, e1, _, hc1⟩ := hi.at 1 (by simp)
 cases e1
 obtain ⟨_, hBw⟩ := hB
 have c0 : w.cell? ⟨g, off, none⟩ = some (.string a) := hc0
 have c1 : w.cell? ⟨g, off + 1, none⟩ = some (.string b) := hc1
 have HI : Hid (StrsAt 0 w.heap.size w (some ⟨g, off, none⟩) (a :: b :: c :: r)) := hi
 have HS : Hid (∀ s ∈ a :: b :: c :: r, s.size ≤ 2199023255552) := hs
 have HE : Hid (Env w) := he
 have hsa := hs a (by simp)
 have a0 : ∀ o, (w.alloc o).cell? ⟨g, off, none⟩ = some (.string a) := fun o => by rw [World.cell?_alloc_past _ _ _ hBw]; exact c0
 clear hc0 hc1 hi hs he
 go_enter Tryz.func182, Tryz.ntmps182
 go_wp2_with fail
 refine (z_aQ _ _ (by omega)).mono ?_
 rintro e w1 ⟨rfl, hb1⟩
 rw [ha]
 obtain ⟨⟨x0, x1, x2, x3, x4⟩, hf, hlt⟩ := box5 hb1
 have HB : Below w.heap.size w w1 := ((Below.refl _ _).alloc (Nat.le_refl _) _).trans (hb1.mono (by simp))
 rw [← HB.cell (p := ⟨g, off, none⟩) hBw] at c0
 rw [← HB.cell (p := ⟨g, off + 1, none⟩) hBw] at c1
 have HB1 : Hid (Below w.heap.size w w1) := HB
 have hg1 : g < w1.heap.size := by omega
 clear hb1 HB a0
 have HN : Hid (pLet (a :: b :: c :: r) = none) := by simp [Hid, pLet, hr]
 have HT : Hid (StrsAt 0 w.heap.size w (some ⟨g, off + 2, none⟩) (c :: r)) := HI.out.drop 2
 go_wp2_with fail
 refine (z_ar (some ⟨g, off + 2, none⟩) (cap - 2) (c :: r) w.heap.size _ HB1.out.size (by simp; omega) (fun s h => HS.out s (by simp at h ⊢; rcases h with h | h <;> simp [h])) (HE.out.later HB1.out) (HT.out.below HB1.out)).mono ?_
 rintro e w2 ⟨rfl, hb2⟩
 rw [hr]
 obtain ⟨hc2, hf2⟩ := z_ch hb2
 rw [← hc2 _ _ hlt] at x0 x1 x2 x3 x4
 rw [← hc2 _ _ hg1] at c0 c1
 have hfx : ∀ o, w2.frozen? ⟨w.heap.size, o, none⟩ = false := fun o => by rw [hf2 _ _ hlt]; exact hf o
 have HB2 : Hid (Below w.heap.size w w2) := HB1.out.trans (hb2.mono (by omega))
 have hg2 : g < w2.heap.size := by have := hb2.size; omega
 have hlt2 : w.heap.size < w2.heap.size := by have := hb2.size; omega
 clear hb2 hc2 hf2 hf
 go_wp2
 refine bodyPost_ret (v := .tuple #[.agg #[.int .i64 0, .string ⟨#[]⟩, .string ⟨#[]⟩, .slice none 0 0, .string ⟨#[]⟩], .bool false]) (by simp [results, Tryz.results182, go_sem, x0, x1, x2, x3, x4]) rfl ?_
 exact ReadEnd.no HN.out rfl (z_aw _ (Nat.le_refl _) HB2.out)
theorem z_gY (g off : Nat) (cap : Nat) (a b c : ByteArray) (r : List ByteArray) (w : World) (hcap : r.length + 3 ≤ cap) (hl : r.length ≤ 4398046511000) (hs : ∀ s ∈ a :: b :: c :: r, s.size ≤ 2199023255552) (hi : StrsAt 0 w.heap.size w (some ⟨g, off, none⟩) (a :: b :: c :: r)) (he : Env w)
  (ha : z_ac a = true) (hr : allB z_an (c :: r) = true) (hn : ((r.length : Int) + 1 == letN b) = false) :
  Calls Tryz.prog 182 #[.slice (some ⟨g, off, none⟩) (r.length + 3) cap] w fun e w' => ReadEnd (pLet (a :: b :: c :: r)) 0 w e w' := by
 obtain ⟨_, _, e0, hB, hc0⟩ := hi.at 0 (by simp)
 cases e0
 obtain ⟨_, _, e1, _, hc1⟩ := hi.at 1 (by simp)
 cases e1
 obtain ⟨_, hBw⟩ := hB
 have c0 : w.cell? ⟨g, off, none⟩ = some (.string a) := hc0
 have c1 : w.cell? ⟨g, off + 1, none⟩ = some (.string b) := hc1
 have HI : Hid (StrsAt 0 w.heap.size w (some ⟨g, off, none⟩) (a :: b :: c :: r)) := hi
 have HS : Hid (∀ s ∈ a :: b :: c :: r, s.size ≤ 2199023255552) := hs
 have HE : Hid (Env w) := he
 have hsa := hs a (by simp)
 have a0 : ∀ o, (w.alloc o).cell? ⟨g, off, none⟩ = some (.string a) := fun o => by rw [World.cell?_alloc_past _ _ _ hBw]; exact c0
 clear hc0 hc1 hi hs he
 go_enter Tryz.func182, Tryz.ntmps182
 go_wp2_with fail
 refine (z_aQ _ _ (by omega)).mono ?_
 rintro e w1 ⟨rfl, hb1⟩
 rw [ha]
 obtain ⟨⟨x0, x1, x2, x3, x4⟩, hf, hlt⟩ := box5 hb1
 have HB : Below w.heap.size w w1 := ((Below.refl _ _).alloc (Nat.le_refl _) _).trans (hb1.mono (by simp))
 rw [← HB.cell (p := ⟨g, off, none⟩) hBw] at c0
 rw [← HB.cell (p := ⟨g, off + 1, none⟩) hBw] at c1
 have HB1 : Hid (Below w.heap.size w w1) := HB
 have hg1 : g < w1.heap.size := by omega
 clear hb1 HB a0
 have HN : Hid (pLet (a :: b :: c :: r) = none) := by
  have : ¬ ((r.length : Int) + 1 = letN b) := by simpa using hn
  simp [Hid, pLet, this]
 have hn2 : ((r.length : Int) + 3 - 2 == letN b) = false := by rw [← hn]; congr 1; omega
 have HT : Hid (StrsAt 0 w.heap.size w (some ⟨g, off + 2, none⟩) (c :: r)) := HI.out.drop 2
 go_wp2_with fail
 refine (z_ar (some ⟨g, off + 2, none⟩) (cap - 2) (c :: r) w.heap.size _ HB1.out.size (by simp; omega) (fun s h => HS.out s (by simp at h ⊢; rcases h with h | h <;> simp [h])) (HE.out.later HB1.out) (HT.out.below HB1.out)).mono ?_
 rintro e w2 ⟨rfl, hb2⟩
 rw [hr]
 obtain ⟨hc2, hf2⟩ := z_ch hb2
 rw [← hc2 _ _ hlt] at x0 x1 x2 x3 x4
 rw [← hc2 _ _ hg1] at c0 c1
 have hfx : ∀ o, w2.frozen? ⟨w.heap.size, o, none⟩ = false := fun o => by rw [hf2 _ _ hlt]; exact hf o
 have HB2 : Hid (Below w.heap.size w w2) := HB1.out.trans (hb2.mono (by omega))
 have hg2 : g < w2.heap.size := by have := hb2.size; omega
 have hlt2 : w.heap.size < w2.heap.size := by have := hb2.size; omega
 clear hb2 hc2 hf2 hf
 go_wp2_with fail
 refine (z_eu _ _).mono ?_
 rintro e w' ⟨rfl, rfl⟩
 go_wp2
 refine bodyPost_ret (v := .tuple #[.agg #[.int .i64 0, .string ⟨#[]⟩, .string ⟨#[]⟩, .slice none 0 0, .string ⟨#[]⟩], .bool false]) (by simp [results, Tryz.results182, go_sem, x0, x1, x2, x3, x4]) rfl ?_
 exact ReadEnd.no HN.out rfl (z_aw _ (Nat.le_refl _) HB2.out)
theorem z_jc (g off : Nat) (cap : Nat) (a b c : ByteArray) (r : List ByteArray) (w : World) (hcap : r.length + 3 ≤ cap) (hl : r.length ≤ 4398046511000) (hs : ∀ s ∈ a :: b :: c :: r, s.size ≤ 2199023255552) (hi : StrsAt 0 w.heap.size w (some ⟨g, off, none⟩) (a :: b :: c :: r)) (he : Env w)
  (ha : z_ac a = true) (hr : allB z_an (c :: r) = true) (hn : ((r.length : Int) + 1 == letN b) = true) :
  Calls Tryz.prog 182 #[.slice (some ⟨g, off, none⟩) (r.length + 3) cap] w fun e w' => ReadEnd (pLet (a :: b :: c :: r)) 0 w e w' := by
 obtain ⟨_, _, e0, hB, hc0⟩ := hi.at 0 (by simp)
 cases e0
 obtain ⟨_, _, e1, _, hc1⟩ := hi.at 1 (by simp)
 cases e1
 obtain ⟨_, hBw⟩ := hB
 have c0 : w.cell? ⟨g, off, none⟩ = some (.string a) := hc0
 have c1 : w.cell? ⟨g, off + 1, none⟩ = some (.string b) := hc1
 have HI : Hid (StrsAt 0 w.heap.size w (some ⟨g, off, none⟩) (a :: b :: c :: r)) := hi
 have HS : Hid (∀ s ∈ a :: b :: c :: r, s.size ≤ 2199023255552) := hs
 have HE : Hid (Env w) := he
 have hsa := hs a (by simp)
 have a0 : ∀ o, (w.alloc o).cell? ⟨g, off, none⟩ = some (.string a) := fun o => by rw [World.cell?_alloc_past _ _ _ hBw]; exact c0
 clear hc0 hc1 hi hs he
 go_enter Tryz.func182, Tryz.ntmps182
 go_wp2_with fail
 refine (z_aQ _ _ (by omega)).mono ?_
 rintro e w1 ⟨rfl, hb1⟩
 rw [ha]
 obtain ⟨⟨x0, x1, x2, x3, x4⟩, hf, hlt⟩ := box5 hb1
 have HB : Below w.heap.size w w1 := ((Below.refl _ _).alloc (Nat.le_refl _) _).trans (hb1.mono (by simp))
 rw [← HB.cell (p := ⟨g, off, none⟩) hBw] at c0
 rw [← HB.cell (p := ⟨g, off + 1, none⟩) hBw] at c1
 have HB1 : Hid (Below w.heap.size w w1) := HB
 have hg1 : g < w1.heap.size := by omega
 clear hb1 HB a0
 have HN : Hid (pLet (a :: b :: c :: r) = some ⟨a, b, c :: r, eS⟩) := by
  have : ((r.length : Int) + 1 = letN b) := by simpa using hn
  simp only [Hid, pLet]; rw [if_pos ⟨ha, hr, this⟩]
 have hn2 : ((r.length : Int) + 3 - 2 == letN b) = true := by rw [← hn]; congr 1; omega
 have HT : Hid (StrsAt 0 w.heap.size w (some ⟨g, off + 2, none⟩) (c :: r)) := HI.out.drop 2
 go_wp2_with fail
 refine (z_ar (some ⟨g, off + 2, none⟩) (cap - 2) (c :: r) w.heap.size _ HB1.out.size (by simp; omega) (fun s h => HS.out s (by simp at h ⊢; rcases h with h | h <;> simp [h])) (HE.out.later HB1.out) (HT.out.below HB1.out)).mono ?_
 rintro e w2 ⟨rfl, hb2⟩
 rw [hr]
 obtain ⟨hc2, hf2⟩ := z_ch hb2
 rw [← hc2 _ _ hlt] at x0 x1 x2 x3 x4
 rw [← hc2 _ _ hg1] at c0 c1
 have hfx : ∀ o, w2.frozen? ⟨w.heap.size, o, none⟩ = false := fun o => by rw [hf2 _ _ hlt]; exact hf o
 have HB2 : Hid (Below w.heap.size w w2) := HB1.out.trans (hb2.mono (by omega))
 have hg2 : g < w2.heap.size := by have := hb2.size; omega
 have hlt2 : w.heap.size < w2.heap.size := by have := hb2.size; omega
 clear hb2 hc2 hf2 hf
 go_wp2_with fail
 refine (z_eu _ _).mono ?_
 rintro e w' ⟨rfl, rfl⟩
 go_wp2_with fail
 have hgne : g ≠ w.heap.size := by omega
 have hi0 : (0 : Int) < (r.length : Int) + 3 := by omega
 have hi1 : (1 : Int) < (r.length : Int) + 3 := by omega
 go_region_held3 (fun wx => wx.cell? ⟨g, off, none⟩ = some (.string a) ∧ wx.cell? ⟨g, off + 1, none⟩ = some (.string b))
  (first | (go_keep; done) | (refine ⟨?_, ?_⟩ <;> rw [z_nK _ (by omega)] <;> assumption))
  (first
   | (go_at_call 88; refine (z_bc (some ⟨g, off + 2, none⟩) (cap - 2) (c :: r) _ (by simp; omega) ((HT.out.later HB2.out).later (Below.refl _ _).drew)).mono ?_; rintro e w3 ⟨v, rfl, hb3, bo, cap', rfl, hcp, hv⟩; have H3 : Below w'.heap.size w' w3 := (Below.refl _ _).drew.trans hb3; have HV : Hid (StrsAt w'.heap.size w3.heap.size w3 bo (c :: r)) := hv; have HB3 : Hid (Below w.heap.size w w3) := HB2.out.trans (H3.mono (by omega)); obtain ⟨hq, hfq⟩ := z_ch H3; have c3 := (hq g off hg2).trans c0; have c4 := (hq g (off + 1) hg2).trans c1; have y0 := (hq _ 0 hlt2).trans x0; have y1 := (hq _ 1 hlt2).trans x1; have y2 := (hq _ 2 hlt2).trans x2; have y3 := (hq _ 3 hlt2).trans x3; have y4 := (hq _ 4 hlt2).trans x4; have hf3 : ∀ o, w3.frozen? ⟨w.heap.size, o, none⟩ = false := (fun o => (hfq _ o hlt2).trans (hfx o)); clear hb3 hv H3 hq hfq))
 all_goals
  go_wp2
  refine bodyPost_ret (v := .tuple #[.agg #[.int .i64 0, .string a, .string b, .slice bo (r.length + 1) cap', .string ⟨#[]⟩], .bool true]) (by simp [results, Tryz.results182, go_sem, y0, y1, y2, y3, y4]) rfl ?_
  refine ReadEnd.yes (v := .agg #[.int .i64 0, .string a, .string b, .slice bo (r.length + 1) cap', .string ⟨#[]⟩]) HN.out rfl ?_ ?_
  ·exact z_aw _ (Nat.le_refl _) HB3.out
  ·refine ⟨bo, cap', rfl, hcp, ?_⟩
   rw [z_bw]
   exact (HV.out.set5 _ (.inl (by omega))).mono (by omega) (Nat.le_refl _)
theorem z_jI (ao : Option Addr) (cap : Nat) (ws : List ByteArray) (w : World) (hcap : ws.length ≤ cap) (hl : ws.length ≤ 4398046511000) (hs : ∀ s ∈ ws, s.size ≤ 2199023255552) (hi : StrsAt 0 w.heap.size w ao ws) (he : Env w) :
  Calls Tryz.prog 182 #[.slice ao ws.length cap] w fun e w' => ReadEnd (pLet ws) 0 w e w' := by
 by_cases h3 : ws.length < 3
 ·have HN : Hid (pLet ws = none) := by
   match ws, h3 with
   | [], _ => rfl
   | [_], _ => rfl
   | [_, _], _ => rfl
   | _ :: _ :: _ :: _, h3 => simp at h3; omega
  have h4 : (ws.length : Int) < 3 := by omega
  go_enter Tryz.func182, Tryz.ntmps182
  go_wp2
  refine bodyPost_ret (v := .tuple #[.agg #[.int .i64 0, .string ⟨#[]⟩, .string ⟨#[]⟩, .slice none 0 0, .string ⟨#[]⟩], .bool false]) (by simp [results, Tryz.results182, go_sem]) rfl ?_
  exact ReadEnd.no HN.out rfl ((Below.refl _ _).alloc (Nat.le_refl _) _)
 ·match ws, h3, hcap, hl, hs, hi with
  | [], h3, _, _, _, _ => simp at h3
  | [_], h3, _, _, _, _ => simp at h3
  | [_, _], h3, _, _, _, _ => simp at h3
  | a :: b :: c :: r, _, hcap, hl, hs, hi =>
   obtain ⟨g, off, rfl, _, _⟩ := hi.at 0 (by simp)
   simp only [List.length_cons] at hl hcap ⊢
   cases ha : z_ac a with
   | false => exact z_fX g off cap a b c r w (by omega) hs hi he ha
   | true =>
    cases hr : allB z_an (c :: r) with
    | false => exact z_h0 g off cap a b c r w hcap (by omega) hs hi he ha hr
    | true =>
     cases hn : ((r.length : Int) + 1 == letN b) with
     | false => exact z_gY g off cap a b c r w hcap (by omega) hs hi he ha hr hn
     | true => exact z_jc g off cap a b c r w hcap (by omega) hs hi he ha hr hn
end Go.Proofs.YtlbjjbolbopfmaaGreatDoor
