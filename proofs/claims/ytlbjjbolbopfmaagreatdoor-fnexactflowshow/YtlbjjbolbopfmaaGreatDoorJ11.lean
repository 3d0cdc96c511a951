import Derived.Test.YtlbjjbolbopfmaaGreatDoorJ08
import Derived.Test.YtlbjjbolbopfmaaGreatDoorJ09
import Derived.Test.YtlbjjbolbopfmaaGreatDoorJ04
import Derived.Test.YtlbjjbolbopfmaaGreatDoorJ03
import Derived.Test.YtlbjjbolbopfmaaGreatDoorJ01
import Derived.Deep.LoopGhost
import Derived.ChangeBears2
namespace Go.Proofs.YtlbjjbolbopfmaaGreatDoor
set_option maxHeartbeats 4000000
set_option maxRecDepth 1000000
set_option linter.unusedVariables false
section
open Go.RowKit
theorem z_fY (g off : Nat) (cap : Nat) (a b c : ByteArray) (r : List ByteArray) (w : World) (hl : r.length ≤ 4398046511000) (hs : ∀ s ∈ a :: b :: c :: r, s.size ≤ 2199023255552) (hi : StrsAt 0 w.heap.size w (some ⟨g, off, none⟩) (a :: b :: c :: r)) (he : Env w)
  (ha : z_ac a = false) :
  Calls Tryz.prog 182 #[.slice (some ⟨g, off, none⟩) (r.length + 3) cap] w fun e w' => ReadEnd (pLet (a :: b :: c :: r)) 0 w e w' := by
 obtain ⟨_, _, e0, hB, hc0⟩ := hi.at 0 (by simp)
 cases e0
 obtain ⟨_, _, e1, _, hc1⟩ := hi.at 1 (by simp)
 cases e1
 obtain ⟨_, hBw⟩ := hB
 have c0 : w.cell? ⟨g, off, none⟩ = some (.string a) := hc0
 have c1 : w.cell? ⟨g, off + 1, none⟩ = some (.string b) := hc1
 have HI : Hid (StrsAt 0 w.heap.size w (some ⟨g, off, none⟩) (a :: b :: c :: r)) := hi
 have HS : Hid (∀ s ∈ a :: b :: c :: r, s.size ≤ 2199023255552) := hs
 have HE : Hid (Env w) := he
 have hsa := hs a (by simp)
 have a0 : ∀ o, (w.alloc o).cell? ⟨g, off, none⟩ = some (.string a) := fun o => by rw [World.cell?_alloc_past _ _ _ hBw]; exact c0
 clear hc0 hc1 hi hs he
 go_enter Tryz.func182, Tryz.ntmps182
 go_wp2_with fail
 refine (z_aP _ _ (by omega)).mono ?_
 rintro e w1 ⟨rfl, hb1⟩
 rw [ha]
 obtain ⟨⟨x0, x1, x2, x3, x4⟩, hf, hlt⟩ := box5 hb1
 have HB : Below w.heap.size w w1 := ((Below.refl _ _).alloc (Nat.le_refl _) _).trans (hb1.mono (by simp))
 rw [← HB.cell (p := ⟨g, off, none⟩) hBw] at c0
 rw [← HB.cell (p := ⟨g, off + 1, none⟩) hBw] at c1
 have HB1 : Hid (Below w.heap.size w w1) := HB
 have hg1 : g < w1.heap.size := by omega
 clear hb1 HB a0
 have HN : Hid (pLet (a :: b :: c :: r) = none) := by simp [Hid, pLet, ha]
 go_wp2
 refine bodyPost_ret (v := .tuple #[.agg #[.int .i64 0, .string ⟨#[]⟩, .string ⟨#[]⟩, .slice none 0 0, .string ⟨#[]⟩], .bool false]) (by simp [results, Tryz.results182, go_sem, x0, x1, x2, x3, x4]) rfl ?_
 exact ReadEnd.no HN.out rfl (z_aw _ (Nat.le_refl _) HB1.out)
theorem z_iw (g off : Nat) (cap : Nat) (a b c : ByteArray) (r : List ByteArray) (w : World) (hcap : r.length + 3 ≤ cap) (hl : r.length ≤ 4398046511000) (hs : ∀ s ∈ a :: b :: c :: r, s.size ≤ 2199023255552) (hi : StrsAt 0 w.heap.size w (some ⟨g, off, none⟩) (a :: b :: c :: r)) (he : Env w)
  (ha : z_ac a = true) (hr : allB z_an (c :: r) = false) :
  Calls Tryz.prog 182 #[.slice (some ⟨g, off, none⟩) (r.length + 3) cap] w fun e w' => ReadEnd (pLet (a :: b :: c :: r)) 0 w e w' := by
 obtain ⟨_, _, e0, hB, hc0⟩ := hi.at 0 (by simp)
 cases e0
 obtain ⟨_, _, e1, _, hc1⟩ := hi.at 1 (by simp)
 cases e1
 obtain ⟨_, hBw⟩ := hB
 have c0 : w.cell? ⟨g, off, none⟩ = some (.string a) := hc0
 have c1 : w.cell? ⟨g, off + 1, none⟩ = some (.string b) := hc1
 have HI : Hid (StrsAt 0 w.heap.size w (some ⟨g, off, none⟩) (a :: b :: c :: r)) := hi
 have HS : Hid (∀ s ∈ a :: b :: c :: r, s.size ≤ 2199023255552) := hs
 have HE : Hid (Env w) := he
 have hsa := hs a (by simp)
 have a0 : ∀ o, (w.alloc o).cell? ⟨g, off, none⟩ = some (.string a) := fun o => by rw [World.cell?_alloc_past _ _ _ hBw]; exact c0
 clear hc0 hc1 hi hs he
 go_enter Tryz.func182, Tryz.ntmps182
 go_wp2_with fail
 refine (z_aP _ _ (by omega)).mono ?_
 rintro e w1 ⟨rfl, hb1⟩
 rw [ha]
 obtain ⟨⟨x0, x1, x2, x3, x4⟩, hf, hlt⟩ := box5 hb1
 have HB : Below w.heap.size w w1 := ((Below.refl _ _).alloc (Nat.le_refl _) _).trans (hb1.mono (by simp))
 rw [← HB.cell (p := ⟨g, off, none⟩) hBw] at c0
 rw [← HB.cell (p := ⟨g, off + 1, none⟩) hBw] at c1
 have HB1 : Hid (Below w.heap.size w w1) := HB
 have hg1 : g < w1.heap.size := by omega
 clear hb1 HB a0
 have HN : Hid (pLet (a :: b :: c :: r) = none) := by simp [Hid, pLet, hr]
 have HT : Hid (StrsAt 0 w.heap.size w (some ⟨g, off + 2, none⟩) (c :: r)) := HI.out.drop 2
 go_wp2_with fail
 refine (z_ar (some ⟨g, off + 2, none⟩) (cap - 2) (c :: r) w.heap.size _ HB1.out.size (by simp; omega) (fun s h => HS.out s (by simp at h ⊢; rcases h with h | h <;> simp [h])) (HE.out.later HB1.out) (HT.out.below HB1.out)).mono ?_
 rintro e w2 ⟨rfl, hb2⟩
 rw [hr]
 obtain ⟨hc2, hf2⟩ := z_ch hb2
 rw [← hc2 _ _ hlt] at x0 x1 x2 x3 x4
 rw [← hc2 _ _ hg1] at c0 c1
 have hfx : ∀ o, w2.frozen? ⟨w.heap.size, o, none⟩ = false := fun o => by rw [hf2 _ _ hlt]; exact hf o
 have HB2 : Hid (Below w.heap.size w w2) := HB1.out.trans (hb2.mono (by omega))
 have hg2 : g < w2.heap.size := by have := hb2.size; omega
 have hlt2 : w.heap.size < w2.heap.size := by have := hb2.size; omega
 clear hb2 hc2 hf2 hf
 go_wp2
 refine bodyPost_ret (v := .tuple #[.agg #[.int .i64 0, .string ⟨#[]⟩, .string ⟨#[]⟩, .slice none 0 0, .string ⟨#[]⟩], .bool false]) (by simp [results, Tryz.results182, go_sem, x0, x1, x2, x3, x4]) rfl ?_
 exact ReadEnd.no HN.out rfl (z_aw _ (Nat.le_refl _) HB2.out)
theorem z_hg (g off : Nat) (cap : Nat) (a b c : ByteArray) (r : List ByteArray) (w : World) (hcap : r.length + 3 ≤ cap) (hl : r.length ≤ 4398046511000) (hs : ∀ s ∈ a :: b :: c :: r, s.size ≤ 2199023255552) (hi : StrsAt 0 w.heap.size w (some ⟨g, off, none⟩) (a :: b :: c :: r)) (he : Env w)
  (ha : z_ac a = true) (hr : allB z_an (c :: r) = true) (hn : ((r.length : Int) + 1 == letN b) = false) :
  Calls Tryz.prog 182 #[.slice (some ⟨g, off, none⟩) (r.length + 3) cap] w fun e w' => ReadEnd (pLet (a :: b :: c :: r)) 0 w e w' := by
 obtain ⟨_, _, e0, hB, hc0⟩ := hi.at 0 (by simp)
 cases e0
 obtain ⟨_, _, e1, _, hc1⟩ := hi.at 1 (by simp)
 cases e1
 obtain ⟨_, hBw⟩ := hB
 have c0 : w.cell? ⟨g, off, none⟩ = some (.string a) := hc0
 have c1 : w.cell? ⟨g, off + 1, none⟩ = some (.string b) := hc1
 have HI : Hid (StrsAt 0 w.heap.size w (some ⟨g, off, none⟩) (a :: b :: c :: r)) := hi
 have HS : Hid (∀ s ∈ a :: b :: c :: r, s.size ≤ 2199023255552) := hs
 have HE : Hid (Env w) := he
 have hsa := hs a (by simp)
 have a0 : ∀ o, (w.alloc o).cell? ⟨g, off, none⟩ = some (.string a) := fun o => by rw [World.cell?_alloc_past _ _ _ hBw]; exact c0
 clear hc0 hc1 hi hs he
 go_enter Tryz.func182, Tryz.ntmps182
 go_wp2_with fail
 refine (z_aP _ _ (by omega)).mono ?_
 rintro e w1 ⟨rfl, hb1⟩
 rw [ha]
 obtain ⟨⟨x0, x1, x2, x3, x4⟩, hf, hlt⟩ := box5 hb1
 have HB : Below w.heap.size w w1 := ((Below.refl _ _).alloc (Nat.le_refl _) _).trans (hb1.mono (by simp))
 rw [← HB.cell (p := ⟨g, off, none⟩) hBw] at c0
 rw [← HB.cell (p := ⟨g, off + 1, none⟩) hBw] at c1
 have HB1 : Hid (Below w.heap.size w w1) := HB
 have hg1 : g < w1.heap.size := by omega
 clear hb1 HB a0
 have HN : Hid (pLet (a :: b :: c :: r) = none) := by
  have : ¬ ((r.length : Int) + 1 = letN b) := by simpa using hn
  simp [Hid, pLet, this]
 have hn2 : ((r.length : Int) + 3 - 2 == letN b) = false := by rw [← hn]; congr 1; omega
 have HT : Hid (StrsAt 0 w.heap.size w (some ⟨g, off + 2, none⟩) (c :: r)) := HI.out.drop 2
 go_wp2_with fail
 refine (z_ar (some ⟨g, off + 2, none⟩) (cap - 2) (c :: r) w.heap.size _ HB1.out.size (by simp; omega) (fun s h => HS.out s (by simp at h ⊢; rcases h with h | h <;> simp [h])) (HE.out.later HB1.out) (HT.out.below HB1.out)).mono ?_
 rintro e w2 ⟨rfl, hb2⟩
 rw [hr]
 obtain ⟨hc2, hf2⟩ := z_ch hb2
 rw [← hc2 _ _ hlt] at x0 x1 x2 x3 x4
 rw [← hc2 _ _ hg1] at c0 c1
 have hfx : ∀ o, w2.frozen? ⟨w.heap.size, o, none⟩ = false := fun o => by rw [hf2 _ _ hlt]; exact hf o
 have HB2 : Hid (Below w.heap.size w w2) := HB1.out.trans (hb2.mono (by omega))
 have hg2 : g < w2.heap.size := by have := hb2.size; omega
 have hlt2 : w.heap.size < w2.heap.size := by have := hb2.size; omega
 clear hb2 hc2 hf2 hf
 go_wp2_with fail
 refine (z_ep _ _).mono ?_
 rintro e w' ⟨rfl, rfl⟩
 go_wp2
 refine bodyPost_ret (v := .tuple #[.agg #[.int .i64 0, .string ⟨#[]⟩, .string ⟨#[]⟩, .slice none 0 0, .string ⟨#[]⟩], .bool false]) (by simp [results, Tryz.results182, go_sem, x0, x1, x2, x3, x4]) rfl ?_
 exact ReadEnd.no HN.out rfl (z_aw _ (Nat.le_refl _) HB2.out)
theorem z_jL (g off : Nat) (cap : Nat) (a b c : ByteArray) (r : List ByteArray) (w : World) (hcap : r.length + 3 ≤ cap) (hl : r.length ≤ 4398046511000) (hs : ∀ s ∈ a :: b :: c :: r, s.size ≤ 2199023255552) (hi : StrsAt 0 w.heap.size w (some ⟨g, off, none⟩) (a :: b :: c :: r)) (he : Env w)
  (ha : z_ac a = true) (hr : allB z_an (c :: r) = true) (hn : ((r.length : Int) + 1 == letN b) = true) :
  Calls Tryz.prog 182 #[.slice (some ⟨g, off, none⟩) (r.length + 3) cap] w fun e w' => ReadEnd (pLet (a :: b :: c :: r)) 0 w e w' := by
 obtain ⟨_, _, e0, hB, hc0⟩ := hi.at 0 (by simp)
 cases e0
 obtain ⟨_, _, e1, _, hc1⟩ := hi.at 1 (by simp)
 cases e1
 obtain ⟨_, hBw⟩ := hB
 have c0 : w.cell? ⟨g, off, none⟩ = some (.string a) := hc0
 have c1 : w.cell? ⟨g, off + 1, none⟩ = some (.string b) := hc1
 have HI : Hid (StrsAt 0 w.heap.size w (some ⟨g, off, none⟩) (a :: b :: c :: r)) := hi
 have HS : Hid (∀ s ∈ a :: b :: c :: r, s.size ≤ 2199023255552) := hs
 have HE : Hid (Env w) := he
 have hsa := hs a (by simp)
 have a0 : ∀ o, (w.alloc o).cell? ⟨g, off, none⟩ = some (.string a) := fun o => by rw [World.cell?_alloc_past _ _ _ hBw]; exact c0
 clear hc0 hc1 hi hs he
 go_enter Tryz.func182, Tryz.ntmps182
 go_wp2_with fail
 refine (z_aP _ _ (by omega)).mono ?_
 rintro e w1 ⟨rfl, hb1⟩
 rw [ha]
 obtain ⟨⟨x0, x1, x2, x3, x4⟩, hf, hlt⟩ := box5 hb1
 have HB : Below w.heap.size w w1 := ((Below.refl _ _).alloc (Nat.le_refl _) _).trans (hb1.mono (by simp))
 rw [← HB.cell (p := ⟨g, off, none⟩) hBw] at c0
 rw [← HB.cell (p := ⟨g, off + 1, none⟩) hBw] at c1
 have HB1 : Hid (Below w.heap.size w w1) := HB
 have hg1 : g < w1.heap.size := by omega
 clear hb1 HB a0
 have HN : Hid (pLet (a :: b :: c :: r) = some ⟨a, b, c :: r, eS⟩) := by
  have : ((r.length : Int) + 1 = letN b) := by simpa using hn
  simp only [Hid, pLet]; rw [if_pos ⟨ha, hr, this⟩]
 have hn2 : ((r.length : Int) + 3 - 2 == letN b) = true := by rw [← hn]; congr 1; omega
 have HT : Hid (StrsAt 0 w.heap.size w (some ⟨g, off + 2, none⟩) (c :: r)) := HI.out.drop 2
 go_wp2_with fail
 refine (z_ar (some ⟨g, off + 2, none⟩) (cap - 2) (c :: r) w.heap.size _ HB1.out.size (by simp; omega) (fun s h => HS.out s (by simp at h ⊢; rcases h with h | h <;> simp [h])) (HE.out.later HB1.out) (HT.out.below HB1.out)).mono ?_
 rintro e w2 ⟨rfl, hb2⟩
 rw [hr]
 obtain ⟨hc2, hf2⟩ := z_ch hb2
 rw [← hc2 _ _ hlt] at x0 x1 x2 x3 x4
 rw [← hc2 _ _ hg1] at c0 c1
 have hfx : ∀ o, w2.frozen? ⟨w.heap.size, o, none⟩ = false := fun o => by rw [hf2 _ _ hlt]; exact hf o
 have HB2 : Hid (Below w.heap.size w w2) := HB1.out.trans (hb2.mono (by omega))
 have hg2 : g < w2.heap.size := by have := hb2.size; omega
 have hlt2 : w.heap.size < w2.heap.size := by have := hb2.size; omega
 clear hb2 hc2 hf2 hf
 go_wp2_with fail
 refine (z_ep _ _).mono ?_
 rintro e w' ⟨rfl, rfl⟩
 go_wp2_with fail
 have hgne : g ≠ w.heap.size := by omega
 have hi0 : (0 : Int) < (r.length : Int) + 3 := by omega
 have hi1 : (1 : Int) < (r.length : Int) + 3 := by omega
 go_region_held3 (fun wx => wx.cell? ⟨g, off, none⟩ = some (.string a) ∧ wx.cell? ⟨g, off + 1, none⟩ = some (.string b))
  (first | (go_keep; done) | (refine ⟨?_, ?_⟩ <;> rw [z_ny _ (by omega)] <;> assumption))
  (first
   | (go_at_call 88; refine (z_bc (some ⟨g, off + 2, none⟩) (cap - 2) (c :: r) _ (by simp; omega) ((HT.out.later HB2.out).later (Below.refl _ _).drew)).mono ?_; rintro e w3 ⟨v, rfl, hb3, bo, cap', rfl, hcp, hv⟩; have H3 : Below w'.heap.size w' w3 := (Below.refl _ _).drew.trans hb3; have HV : Hid (StrsAt w'.heap.size w3.heap.size w3 bo (c :: r)) := hv; have HB3 : Hid (Below w.heap.size w w3) := HB2.out.trans (H3.mono (by omega)); obtain ⟨hq, hfq⟩ := z_ch H3; have c3 := (hq g off hg2).trans c0; have c4 := (hq g (off + 1) hg2).trans c1; have y0 := (hq _ 0 hlt2).trans x0; have y1 := (hq _ 1 hlt2).trans x1; have y2 := (hq _ 2 hlt2).trans x2; have y3 := (hq _ 3 hlt2).trans x3; have y4 := (hq _ 4 hlt2).trans x4; have hf3 : ∀ o, w3.frozen? ⟨w.heap.size, o, none⟩ = false := (fun o => (hfq _ o hlt2).trans (hfx o)); clear hb3 hv H3 hq hfq))
 all_goals
  go_wp2
  refine bodyPost_ret (v := .tuple #[.agg #[.int .i64 0, .string a, .string b, .slice bo (r.length + 1) cap', .string ⟨#[]⟩], .bool true]) (by simp [results, Tryz.results182, go_sem, y0, y1, y2, y3, y4]) rfl ?_
  refine ReadEnd.yes (v := .agg #[.int .i64 0, .string a, .string b, .slice bo (r.length + 1) cap', .string ⟨#[]⟩]) HN.out rfl ?_ ?_
  ·exact z_aw _ (Nat.le_refl _) HB3.out
  ·refine ⟨bo, cap', rfl, hcp, ?_⟩
   rw [z_bu]
   exact (HV.out.set5 _ (.inl (by omega))).mono (by omega) (Nat.le_refl _)
theorem z_jN (ao : Option Addr) (cap : Nat) (ws : List ByteArray) (w : World) (hcap : ws.length ≤ cap) (hl : ws.length ≤ 4398046511000) (hs : ∀ s ∈ ws, s.size ≤ 2199023255552) (hi : StrsAt 0 w.heap.size w ao ws) (he : Env w) :
  Calls Tryz.prog 182 #[.slice ao ws.length cap] w fun e w' => ReadEnd (pLet ws) 0 w e w' := by
 by_cases h3 : ws.length < 3
 ·have HN : Hid (pLet ws = none) := by
   match ws, h3 with
   | [], _ => rfl
   | [_], _ => rfl
   | [_, _], _ => rfl
   | _ :: _ :: _ :: _, h3 => simp at h3; omega
  have h4 : (ws.length : Int) < 3 := by omega
  go_enter Tryz.func182, Tryz.ntmps182
  go_wp2
  refine bodyPost_ret (v := .tuple #[.agg #[.int .i64 0, .string ⟨#[]⟩, .string ⟨#[]⟩, .slice none 0 0, .string ⟨#[]⟩], .bool false]) (by simp [results, Tryz.results182, go_sem]) rfl ?_
  exact ReadEnd.no HN.out rfl ((Below.refl _ _).alloc (Nat.le_refl _) _)
 ·match ws, h3, hcap, hl, hs, hi with
  | [], h3, _, _, _, _ => simp at h3
  | [_], h3, _, _, _, _ => simp at h3
  | [_, _], h3, _, _, _, _ => simp at h3
  | a :: b :: c :: r, _, hcap, hl, hs, hi =>
   obtain ⟨g, off, rfl, _, _⟩ := hi.at 0 (by simp)
   simp only [List.length_cons] at hl hcap ⊢
   cases ha : z_ac a with
   | false => exact z_fY g off cap a b c r w (by omega) hs hi he ha
   | true =>
    cases hr : allB z_an (c :: r) with
    | false => exact z_iw g off cap a b c r w hcap (by omega) hs hi he ha hr
    | true =>
     cases hn : ((r.length : Int) + 1 == letN b) with
     | false => exact z_hg g off cap a b c r w hcap (by omega) hs hi he ha hr hn
     | true => exact z_jL g off cap a b c r w hcap (by omega) hs hi he ha hr hn
end
section
open Go.RowKit
def EnvQ (q : Nat) (w : World) : Prop := ∃ w0, Env w0 ∧ w0.heap.size ≤ q ∧ Below w0.heap.size w0 w
theorem EnvQ.env {q : Nat} {w : World} (h : EnvQ q w) : Env w := by
 obtain ⟨w0, h0, _, hb⟩ := h
 exact h0.later hb
theorem EnvQ.keep {q : Nat} {w w' : World} (h : EnvQ q w) (hb : Below q w w') : EnvQ q w' := by
 obtain ⟨w0, h0, hq, hb0⟩ := h
 exact ⟨w0, h0, hq, hb0.trans (hb.mono hq)⟩
inductive ErrC : Value → Prop where
 | base (v : Value) : z_eg v → ErrC v
 | within (p : ByteArray) (n : Int) (v : Value) : ErrC v → ErrC (.iface 231 (.agg #[.string p, .int .i64 n, v]))
structure WkSt (q base : Nat) (ao : Option Addr) (cap : Nat) (ls : List Ln) (w : World) (at_ boths : Nat) (ks : List ByteArray) (v : Value) : Prop where
 obj : WObj w q (.slice ao ls.length cap) (.int .i64 at_) v (.int .i64 boths)
 own : w.ownsRow base 9 1 v ks.length (strCells ks)
 lines : LinesAt q w ao ls
 env : EnvQ q w
 qb : q < base
 bw : base ≤ w.heap.size
def PartEnd (q base : Nat) (ao : Option Addr) (cap : Nat) (ls : List Ln) (at2 boths : Nat) (ks : List ByteArray) (v : Value) (w : World) (res : Option (List ByteArray × Bool)) (e : Ending) (w' : World) : Prop :=
 Wk q v.ownBlock w w' ∧ match res with
  | none => ∃ er v' at3, e = .returned (.tuple #[.agg #[.slice none 0 0, .bool false], er]) ∧ ErrC er ∧ WkSt q base ao cap ls w' at3 boths ks v' ∧ RowTo w v v'
  | some (g, c) => ∃ gv v', e = .returned (.tuple #[.agg #[gv, .bool c], .nilIface]) ∧ WkSt q base ao cap ls w' at2 boths ks v' ∧ RowTo w v v' ∧ w'.ownsRow w.heap.size 9 1 gv g.length (strCells g) ∧ ∀ k, gv.ownBlock = some k → v'.ownBlock ≠ some k
section
variable {q base : Nat} {ao : Option Addr} {cap : Nat} {ls : List Ln} {w w' w'' : World} {at_ boths : Nat} {ks : List ByteArray} {v v' : Value}
theorem WkSt.row_lt (h : WkSt q base ao cap ls w at_ boths ks v) {k : Nat} (hk : v.ownBlock = some k) : base ≤ k ∧ k < w.heap.size := h.own.lt k hk
theorem Wk.belowq (hk : Wk q v.ownBlock w w') (h : WkSt q base ao cap ls w at_ boths ks v) : Below q w w' :=
 hk.below q (Nat.le_refl _) (by have := h.qb; have := h.bw; omega) (fun k hk => by have := (h.row_lt hk).1; have := h.qb; omega)
theorem ErrC.form {v : Value} (h : ErrC v) : ∃ t x, v = .iface t x := by
 cases h with
 | base _ h => obtain ⟨a, b, rfl, _⟩ := h; exact ⟨_, _, rfl⟩
 | within => exact ⟨_, _, rfl⟩
theorem WkSt.to (h : WkSt q base ao cap ls w at_ boths ks v) (hk : Wk q v.ownBlock w w') {at2 boths2 : Nat} {ks2 : List ByteArray} (ho : WObj w' q (.slice ao ls.length cap) (.int .i64 at2) v' (.int .i64 boths2)) (hw : w'.ownsRow base 9 1 v' ks2.length (strCells ks2)) : WkSt q base ao cap ls w' at2 boths2 ks2 v' :=
 ⟨ho, hw, h.lines.below (hk.belowq h), h.env.keep (hk.belowq h), h.qb, Nat.le_trans h.bw hk.size⟩
theorem WkSt.grown {p : Nat} (h : WkSt q base ao cap ls w at_ boths ks v) (hg : w.grownBy w' (some p)) (hp : p ≠ q) (hv : v.ownBlock ≠ some p) (hq : q ≤ p) : WkSt q base ao cap ls w' at_ boths ks v := by
 have hb : Below q w w' := ⟨hg.os, hg.tape, hg.output, hg.size, fun k hk => hg.block k (by have := h.qb; have := h.bw; omega) (by simp; omega)⟩
 exact ⟨h.obj.keep (hg.block q h.obj.lt (by simpa using fun e => hp e.symm)), z_b9 h.own (fun k hk => hg.block k (h.row_lt hk).2 (fun e => hv (by rw [hk, e]))), h.lines.below hb, h.env.keep hb, h.qb, Nat.le_trans h.bw hg.size⟩
theorem WkSt.below (h : WkSt q base ao cap ls w at_ boths ks v) (hb : Below w.heap.size w w') : WkSt q base ao cap ls w' at_ boths ks v := by
 have hbq : Below q w w' := hb.mono (by have := h.qb; have := h.bw; omega)
 exact ⟨h.obj.below hb, z_ax h.own hb, h.lines.below hbq, h.env.keep hbq, h.qb, Nat.le_trans h.bw hb.size⟩
theorem WkSt.set1 (h : WkSt q base ao cap ls w at_ boths ks v) (n : Nat) : WkSt q base ao cap ls (w.setCell ⟨q, 1, none⟩ (.int .i64 n)) n boths ks v :=
 h.to (Wk.of_set 1 _) (h.obj.set1 _) (z_ad h.own (fun e => by have := (h.row_lt e).1; have := h.qb; omega) _)
theorem WkSt.set3 (h : WkSt q base ao cap ls w at_ boths ks v) (n : Nat) : WkSt q base ao cap ls (w.setCell ⟨q, 3, none⟩ (.int .i64 n)) at_ n ks v :=
 h.to (Wk.of_set 3 _) (h.obj.set3 _) (z_ad h.own (fun e => by have := (h.row_lt e).1; have := h.qb; omega) _)
theorem WkSt.linesW (h : WkSt q base ao cap ls w at_ boths ks v) : LinesAt w.heap.size w ao ls := h.lines.mono (by have := h.qb; have := h.bw; omega)
theorem RowTo.ne {k : Nat} (hr : RowTo w v v') (hk : k < w.heap.size) (hv : v.ownBlock ≠ some k) : v'.ownBlock ≠ some k := fun e => by
 rcases hr with h | h
 ·exact hv (h ▸ e)
 ·have := h k e; omega
end
theorem WkSt.wrote {q base p : Nat} {ao : Option Addr} {cap : Nat} {ls : List Ln} {w : World} {at_ boths : Nat} {ks : List ByteArray} {v : Value} (h : WkSt q base ao cap ls w at_ boths ks v) (hp : p ≠ q) (hv : v.ownBlock ≠ some p) (hq : q ≤ p) (u0 u1 : Value) :
  WkSt q base ao cap ls ((w.setCell ⟨p, 0, none⟩ u0).setCell ⟨p, 1, none⟩ u1) at_ boths ks v :=
 h.grown (z_ah (z_aj p 0 u0) (z_aj p 1 u1) (.inl rfl)) hp hv hq
theorem z_aC {q p : Nat} {row : Option Nat} {w w' : World} (h : Wk q row w w') (hp : w.heap.size ≤ p) (u0 u1 : Value) : Wk q row w ((w'.setCell ⟨p, 0, none⟩ u0).setCell ⟨p, 1, none⟩ u1) :=
 h.trans (Wk.of_grown (z_ah (z_aj p 0 u0) (z_aj p 1 u1) (.inl rfl))) (.inr fun k hk => by cases hk; exact hp)
theorem z_b {w : World} {base n p : Nat} {v : Value} {xs : List Value} (h : w.ownsRow base 9 1 v n xs) (hv : v.ownBlock ≠ some p) (u0 u1 : Value) : ((w.setCell ⟨p, 0, none⟩ u0).setCell ⟨p, 1, none⟩ u1).ownsRow base 9 1 v n xs :=
 z_ad (z_ad h hv u0) hv u1
def z_aZ (q base : Nat) (ao : Option Addr) (cap : Nat) (ls : List Ln) (F : Nat) (at_ at2 boths : Nat) (ks : List ByteArray) (res : Option (List ByteArray × Bool)) : Prop :=
 ∀ (w : World) (v : Value), WkSt q base ao cap ls w at_ boths ks v → Calls Tryz.prog F #[.pointer (some ⟨q, 0, none⟩)] w (PartEnd q base ao cap ls at2 boths ks v w res)
end
section
open Go.RowKit
theorem z_da (q base : Nat) (ao : Option Addr) (cap : Nat) (ls : List Ln) (at_ at2 boths : Nat) (ks : List ByteArray) (res : Option (List ByteArray × Bool)) (hat : at_ ≤ 1000)
  (H : z_aZ q base ao cap ls 95 (at_ + 1) at2 boths ks res) : z_aZ q base ao cap ls 192 at_ at2 boths ks res := by
 intro w v hs
 have HH : Hid (z_aZ q base ao cap ls 95 (at_ + 1) at2 boths ks res) := H
 have HS : Hid (WkSt q base ao cap ls w at_ boths ks v) := hs
 have c1 := hs.obj.c1
 have f1 := hs.obj.f 1
 have hqlt := hs.obj.lt
 clear H hs
 go_enter Tryz.func192, Tryz.ntmps192
 go_wp2_with fail
 have e1 : ((at_ + 1 : Nat) : Int) = (at_ : Int) + 1 := by omega
 obtain ⟨W1, hW1⟩ : ∃ W1, W1 = (w.setCell ⟨q, 1, none⟩ (.int .i64 ((at_ : Int) + 1))).alloc (.cells #[.slice none 0 0, .bool false] 138) := ⟨_, rfl⟩
 have hs1 : WkSt q base ao cap ls W1 (at_ + 1) boths ks v := by rw [hW1, ← e1]; exact (HS.out.set1 (at_ + 1)).below ((Below.refl _ _).alloc (Nat.le_refl _) _)
 have hk1 : Wk q v.ownBlock w W1 := by rw [hW1]; exact (Wk.of_set 1 _).trans (Wk.of_below (row := v.ownBlock) ((Below.refl _ _).alloc (Nat.le_refl _) _)) (.inl rfl)
 have hp1 : W1.heap[w.heap.size]? = some (.cells #[.slice none 0 0, .bool false] 138 (0, 0)) := by
  rw [hW1]
  have := heap_alloc_new (w.setCell ⟨q, 1, none⟩ (.int .i64 ((at_ : Int) + 1))) (.cells #[.slice none 0 0, .bool false] 138)
  simpa [World.setCell] using this
 have hsz1 : W1.heap.size = w.heap.size + 1 := by rw [hW1]; simp [World.setCell]
 rw [← hW1]
 clear hW1
 refine (HH.out W1 v hs1).mono ?_
 rintro e W2 ⟨hk2, hres⟩
 have hpne : w.heap.size ≠ q := by omega
 have hvp : v.ownBlock ≠ some w.heap.size := fun e => by have := (HS.out.row_lt e).2; omega
 have hp2 : W2.heap[w.heap.size]? = some (.cells #[.slice none 0 0, .bool false] 138 (0, 0)) := (hk2.block _ (by omega) hpne (fun e => hvp e.symm)).trans hp1
 have x0 : W2.cell? ⟨w.heap.size, 0, none⟩ = some (.slice none 0 0) := by rw [cell_of_row _ _ 0 _ _ _ hp2]; rfl
 have x1 : W2.cell? ⟨w.heap.size, 1, none⟩ = some (.bool false) := by rw [cell_of_row _ _ 1 _ _ _ hp2]; rfl
 have g0 : W2.frozen? ⟨w.heap.size, 0, none⟩ = false := frozen_of_row _ _ 0 _ _ hp2
 have g1 : W2.frozen? ⟨w.heap.size, 1, none⟩ = false := frozen_of_row _ _ 1 _ _ hp2
 have hp2lt : w.heap.size < W2.heap.size := by have := hk2.size; omega
 have hk12 : Wk q v.ownBlock w W2 := hk1.trans hk2 (.inl rfl)
 have HK12 : Hid (Wk q v.ownBlock w W2) := hk12
 clear hk1 hk2 hk12 hp1 hp2 hs1
 cases res with
 | none =>
  obtain ⟨er, v', at3, rfl, hec, hs2, hr2⟩ := hres
  obtain ⟨t, x, rfl⟩ := hec.form
  have HS2 : Hid (WkSt q base ao cap ls W2 at3 boths ks v') := hs2
  have HEC : Hid (ErrC (.iface t x)) := hec
  clear hs2 hec
  go_wp2
  refine bodyPost_ret (v := .tuple #[.agg #[.slice none 0 0, .bool false], .iface 231 (.agg #[.string ⟨#[116, 104, 101, 32, 98, 108, 111, 99, 107, 32, 111, 102, 32, 108, 105, 110, 101]⟩, .int .i64 ((at_ : Int) + 1), .iface t x])]) (by simp [results, Tryz.results192, go_sem, x0, x1, hp2lt]) rfl ?_
  have hv' := hr2.ne (by omega) hvp
  have hk3 := z_aC HK12.out (Nat.le_refl _) (.slice none 0 0) (.bool false)
  have hs3 := HS2.out.wrote hpne hv' (by omega) (.slice none 0 0) (.bool false)
  refine ⟨hk3.trans (Wk.of_below (row := v.ownBlock) ((Below.refl _ _).alloc (Nat.le_refl _) _)) (.inl rfl), _, v', at3, rfl, ErrC.within _ _ _ HEC.out, hs3.below ((Below.refl _ _).alloc (Nat.le_refl _) _), RowTo.refl.trans hr2 (by omega)⟩
 | some r =>
  obtain ⟨g, c⟩ := r
  obtain ⟨gv, v', rfl, hs2, hr2, hg2, hsep⟩ := hres
  have HS2 : Hid (WkSt q base ao cap ls W2 at2 boths ks v') := hs2
  have HG2 : Hid (W2.ownsRow W1.heap.size 9 1 gv g.length (strCells g)) := hg2
  have HSep : Hid (∀ k, gv.ownBlock = some k → v'.ownBlock ≠ some k) := hsep
  obtain ⟨go, gc, rfl, hgc⟩ := z_aq hg2
  clear hs2 hg2 hsep
  go_wp2
  refine bodyPost_ret (v := .tuple #[.agg #[.slice go g.length gc, .bool c], .nilIface]) (by simp [results, Tryz.results192, go_sem, x0, x1, hp2lt]) rfl ?_
  have hv' := hr2.ne (by omega) hvp
  have hgne : (Value.slice go g.length gc).ownBlock ≠ some w.heap.size := fun e => by have := (HG2.out.lt _ e).1; omega
  have hk3 := z_aC HK12.out (Nat.le_refl _) (.slice go g.length gc) (.bool c)
  have hs3 := HS2.out.wrote hpne hv' (by omega) (.slice go g.length gc) (.bool c)
  have hg3 := z_b HG2.out hgne (.slice go g.length gc) (.bool c)
  refine ⟨hk3.trans (Wk.of_below (row := v.ownBlock) ((Below.refl _ _).alloc (Nat.le_refl _) _)) (.inl rfl), _, v', rfl, hs3.below ((Below.refl _ _).alloc (Nat.le_refl _) _), RowTo.refl.trans hr2 (by omega), ?_, HSep.out⟩
  exact z_bh (z_ax hg3 ((Below.refl _ _).alloc (Nat.le_refl _) _)) (by omega)
end
section
open Go.RowKit
theorem z_hF {q p : Nat} {v : Value} {w1 w2 : World} {u0 u1 : Value} (hp : w1.heap[p]? = some (.cells #[u0, u1] 138 (0, 0))) (hk : Wk q v.ownBlock w1 w2) (hpq : p ≠ q) (hv : v.ownBlock ≠ some p) :
  w2.heap[p]? = some (.cells #[u0, u1] 138 (0, 0)) ∧ w2.cell? ⟨p, 0, none⟩ = some u0 ∧ w2.cell? ⟨p, 1, none⟩ = some u1 ∧ w2.frozen? ⟨p, 0, none⟩ = false ∧ w2.frozen? ⟨p, 1, none⟩ = false ∧ p < w2.heap.size := by
 have h1 : p < w1.heap.size := (Array.getElem?_eq_some_iff.1 hp).1
 have h := (hk.block p h1 hpq (fun e => hv e.symm)).trans hp
 exact ⟨h, by rw [cell_of_row _ _ 0 _ _ _ h]; rfl, by rw [cell_of_row _ _ 1 _ _ _ h]; rfl, frozen_of_row _ _ 0 _ _ h, frozen_of_row _ _ 1 _ _ h, by have := hk.size; omega⟩
theorem z_mv (q base : Nat) (ao : Option Addr) (cap : Nat) (ls : List Ln) (at_ at2 boths : Nat) (ks : List ByteArray) (res : Option (List ByteArray × Bool)) (hat : at2 ≤ 1000)
  (H : z_aZ q base ao cap ls 192 at_ at2 boths ks res) : z_aZ q base ao cap ls 168 at_ (at2 + 1) boths ks (res.map fun _ => (([] : List ByteArray), true)) := by
 intro w v hs
 have HH : Hid (z_aZ q base ao cap ls 192 at_ at2 boths ks res) := H
 have HS : Hid (WkSt q base ao cap ls w at_ boths ks v) := hs
 have hqlt := hs.obj.lt
 clear H hs
 go_enter Tryz.func168, Tryz.ntmps168
 go_wp2_with fail
 obtain ⟨W1, hW1⟩ : ∃ W1, W1 = w.alloc (.cells #[.slice none 0 0, .bool false] 138) := ⟨_, rfl⟩
 have hs1 : WkSt q base ao cap ls W1 at_ boths ks v := by rw [hW1]; exact HS.out.below ((Below.refl _ _).alloc (Nat.le_refl _) _)
 have hk1 : Wk q v.ownBlock w W1 := by rw [hW1]; exact Wk.of_below ((Below.refl _ _).alloc (Nat.le_refl _) _)
 have hp1 : W1.heap[w.heap.size]? = some (.cells #[.slice none 0 0, .bool false] 138 (0, 0)) := by rw [hW1]; exact heap_alloc_new _ _
 have hsz1 : W1.heap.size = w.heap.size + 1 := by rw [hW1]; simp
 rw [← hW1]
 clear hW1
 refine (HH.out W1 v hs1).mono ?_
 rintro e W2 ⟨hk2, hres⟩
 have hpne : w.heap.size ≠ q := by omega
 have hvp : v.ownBlock ≠ some w.heap.size := fun e => by have := (HS.out.row_lt e).2; omega
 obtain ⟨hp2, x0, x1, g0, g1, hp2lt⟩ := z_hF hp1 hk2 hpne hvp
 have HK12 : Hid (Wk q v.ownBlock w W2) := hk1.trans hk2 (.inl rfl)
 clear hk1 hk2 hp1 hp2 hs1
 cases res with
 | none =>
  obtain ⟨er, v', at3, rfl, hec, hs2, hr2⟩ := hres
  obtain ⟨t, x, rfl⟩ := hec.form
  have HS2 : Hid (WkSt q base ao cap ls W2 at3 boths ks v') := hs2
  have HEC : Hid (ErrC (.iface t x)) := hec
  clear hs2 hec
  go_wp2
  refine bodyPost_ret (v := .tuple #[.agg #[.slice none 0 0, .bool false], .iface t x]) (by simp [results, Tryz.results168, go_sem, x0, x1, hp2lt]) rfl ?_
  have hv' := hr2.ne (by omega) hvp
  have hk3 := z_aC HK12.out (Nat.le_refl _) (.slice none 0 0) (.bool false)
  have hs3 := HS2.out.wrote hpne hv' (by omega) (.slice none 0 0) (.bool false)
  refine ⟨hk3.trans (Wk.of_below (row := v.ownBlock) ((Below.refl _ _).alloc (Nat.le_refl _) _)) (.inl rfl), _, v', at3, rfl, HEC.out, hs3.below ((Below.refl _ _).alloc (Nat.le_refl _) _), RowTo.refl.trans hr2 (by omega)⟩
 | some r =>
  obtain ⟨g, c⟩ := r
  obtain ⟨gv, v', rfl, hs2, hr2, hg2, hsep⟩ := hres
  have HS2 : Hid (WkSt q base ao cap ls W2 at2 boths ks v') := hs2
  obtain ⟨go, gc, rfl, hgc⟩ := z_aq hg2
  have c1 := hs2.obj.c1
  have f1 := hs2.obj.f 1
  have hqlt2 := hs2.obj.lt
  clear hs2 hg2 hsep
  have hpne2 : q ≠ w.heap.size := fun e => hpne e.symm
  go_wp2
  have e1 : ((at2 + 1 : Nat) : Int) = (at2 : Int) + 1 := by omega
  refine bodyPost_ret (v := .tuple #[.agg #[.slice none 0 0, .bool true], .nilIface]) (by simp [results, Tryz.results168, go_sem, x0, x1, hp2lt]) rfl ?_
  have hv' := hr2.ne (by omega) hvp
  have hs3 := (HS2.out.set1 (at2 + 1)).wrote hpne hv' (by omega) (.slice none 0 0) (.bool true)
  have hk3 := z_aC (HK12.out.trans (Wk.of_set (row := v.ownBlock) 1 (.int .i64 ((at2 + 1 : Nat) : Int))) (.inl rfl)) (Nat.le_refl _) (.slice none 0 0) (.bool true)
  rw [e1] at hs3 hk3
  exact ⟨hk3.trans (Wk.of_below (row := v.ownBlock) ((Below.refl _ _).alloc (Nat.le_refl _) _)) (.inl rfl), _, v', rfl, hs3.below ((Below.refl _ _).alloc (Nat.le_refl _) _), RowTo.refl.trans hr2 (by omega), World.ownsRow_nil _ _ _ _, fun k hk => by simp [Value.ownBlock] at hk⟩
end
section
open Go.RowKit Go.Extern.Stop Go.Stop Go.Extern
theorem z_gJ {w : World} {a : Addr} {v : Value} (h : w.cell? a = some v) : a.block < w.heap.size := by
 unfold World.cell? at h
 split at h
 ·rename_i hb; exact (Array.getElem?_eq_some_iff.1 hb).1
 ·simp at h
theorem z_kF (a b c : Value) (w : World) : Calls Tryz.prog 260 #[.agg #[a, b, c]] w fun e w' => e = .returned c ∧ Below w.heap.size w w' := by
 go_enter Tryz.func260, Tryz.ntmps260
 go_wp2
 go_ret
 exact ⟨rfl, (Below.refl _ _).alloc (Nat.le_refl _) _⟩
theorem z_le (p : ByteArray) (n : Int) (v : Value) : SizeOf.sizeOf v < SizeOf.sizeOf (Value.iface 231 (.agg #[.string p, .int .i64 n, v])) := by
 have h : SizeOf.sizeOf v < SizeOf.sizeOf #[Value.string p, .int .i64 n, v] := Array.sizeOf_lt_of_mem (by simp)
 have h2 : SizeOf.sizeOf (Value.iface 231 (.agg #[.string p, .int .i64 n, v])) = 1 + SizeOf.sizeOf (231 : TypeId) + (1 + SizeOf.sizeOf #[Value.string p, .int .i64 n, v]) := rfl
 omega
theorem z_nU (er : Value) (t vb : Nat) (w : World) (he : ErrC er) (hv : w.cell? ⟨vb, 0, none⟩ = some (.pointer (some ⟨t, 0, none⟩))) (ht0 : w.cell? ⟨t, 0, none⟩ = some (.int .i64 0)) (ht1 : w.cell? ⟨t, 1, none⟩ = some (.int .i64 0)) (hf0 : w.frozen? ⟨t, 0, none⟩ = false) (hf1 : w.frozen? ⟨t, 1, none⟩ = false) (HTL : t < w.heap.size) (HVL : vb < w.heap.size) :
  Calls Tryz.prog 99 #[er, .iface 98 (.pointer (some ⟨t, 0, none⟩)), .agg #[.pointer (some ⟨7, 98, none⟩), .pointer (some ⟨vb, 0, none⟩), .int .u64 150], .iface 185 (.agg #[.pointer (some ⟨7, 96, none⟩)])] w fun e w' => e = .returned (.bool true) ∧ (∃ (ln c : Int), c ≠ 0 ∧ w'.cell? ⟨t, 0, none⟩ = some (.int .i64 ln) ∧ w'.cell? ⟨t, 1, none⟩ = some (.int .i64 c)) ∧ w.grownBy w' (some t) := by
 have h78 := @run_callFunc_extern Tryz.prog 96 _ (fun args => ReflectliteValue.unpack (args.getD 0 (.tuple #[]))) Tryz.func96 (by kernel_rfl) (by kernel_rfl) (by kernel_rfl) (by kernel_rfl)
 have h113 := @run_callFunc_extern Tryz.prog 132 _ ReflectliteType.typeOf Tryz.func132 (by kernel_rfl) (by kernel_rfl) (by kernel_rfl) (by kernel_rfl)
 have h114 := @run_callFunc_extern Tryz.prog 133 _ (ReflectliteValue.method (ReflectliteValue.valueError "reflectlite.Value.Elem" 0) ReflectliteValue.elem) Tryz.func133 (by kernel_rfl) (by kernel_rfl) (by kernel_rfl) (by kernel_rfl)
 have h115 := @run_callFunc_extern Tryz.prog 134 _ ReflectliteValue.set Tryz.func134 (by kernel_rfl) (by kernel_rfl) (by kernel_rfl) (by kernel_rfl)
 have h232 := @run_callFunc_extern Tryz.prog 249 _ (ReflectliteType.relation "AssignableTo" ReflectliteType.assignableTo) Tryz.func249 (by kernel_rfl) (by kernel_rfl) (by kernel_rfl) (by kernel_rfl)
 have tL := X.typeOfL
 have tW := X.typeOfW
 have aL := X.assignL
 have aW := X.assignW
 have mA := X.mAssignableTo
 have mU := X.mUnwrap
 have vL := X.valueOfL
 have tA := X.tAs
 have tU := X.tUnwrap
 go_enter Tryz.func99, Tryz.ntmps99
 go_wp2
 go_loopw [0] (fun e wr => Hid (ErrC e) ∧ Hid (Below w.heap.size w wr) ∧ wr.cell? ⟨w.heap.size, 0, none⟩ = some (.pointer (some ⟨7, 98, none⟩)) ∧ wr.cell? ⟨w.heap.size, 1, none⟩ = some (.pointer (some ⟨vb, 0, none⟩)) ∧ wr.cell? ⟨w.heap.size, 2, none⟩ = some (.int .u64 150)) (fun e _ => SizeOf.sizeOf e)
 case atStart => exact ⟨he, (Below.refl _ _).alloc (Nat.le_refl _) _, by simp, by simp, by simp⟩
 case round =>
  obtain ⟨HE, HB, b0, b1, b2⟩ := hrel
  have HB := HB.out
  have hvw := (HB.cell (p := ⟨vb, 0, none⟩) HVL).trans hv
  have hs := z_gJ b0
  cases HE.out with
  | base _ hl =>
   obtain ⟨ln, c, rfl, hc0⟩ := hl
   have hE := X.elemVP ⟨vb, 0, none⟩ ⟨t, 0, none⟩ wr hvw
   have hb2 : Below w.heap.size w (wr.alloc (.cells #[.int .i64 ln, .int .i64 c] 96)) := HB.alloc HB.size _
   have hS := X.setL t wr.heap.size ln c (.int .i64 0) (.int .i64 0) (wr.alloc (.cells #[.int .i64 ln, .int .i64 c] 96)) (by simp) (by simp) ((hb2.cell (p := ⟨t, 0, none⟩) HTL).trans ht0) ((hb2.cell (p := ⟨t, 1, none⟩) HTL).trans ht1) ((hb2.frozen (p := ⟨t, 0, none⟩) HTL).trans hf0) ((hb2.frozen (p := ⟨t, 1, none⟩) HTL).trans hf1)
   have c0 := (hb2.cell (p := ⟨t, 0, none⟩) HTL).trans ht0
   have c1 := (hb2.cell (p := ⟨t, 1, none⟩) HTL).trans ht1
   go_wp2
   go_ret
   refine ⟨rfl, ⟨ln, c, hc0, ?_, ?_⟩, ?_⟩
   ·exact (World.cell?_setCell_other _ ⟨t, 1, none⟩ ⟨t, 0, none⟩ _ (by simp)).trans (World.cell?_setCell_same _ _ _ c0)
   ·exact World.cell?_setCell_same _ _ _ ((World.cell?_setCell_other _ ⟨t, 0, none⟩ ⟨t, 1, none⟩ _ (by simp)).trans c1)
   ·exact z_ah (z_ah (z_bt hb2) (z_aj t 0 _) (.inl rfl)) (z_aj t 1 _) (.inl rfl)
  | within p n v hv =>
   have HV : Hid (ErrC v) := hv
   obtain ⟨vt, vx, rfl⟩ := hv.form
   go_wp2_with (go_at_call 260; refine (z_kF _ _ _ _).mono ?_; rintro e w1 ⟨rfl, hb1⟩; have HB1 : Hid (Below w.heap.size w w1) := HB.trans (hb1.mono HB.size); have hc0 := (hb1.cell (p := ⟨w.heap.size, 0, none⟩) hs).trans b0; have hc1 := (hb1.cell (p := ⟨w.heap.size, 1, none⟩) hs).trans b1; have hc2 := (hb1.cell (p := ⟨w.heap.size, 2, none⟩) hs).trans b2; clear hb1)
   go_roundw
   case rel => exact ⟨HV, HB1, hc0, hc1, hc2⟩
   case measure => exact z_le p n _
end
section
open Go.RowKit Go.Extern.Stop Go.Stop Go.Extern
theorem z_iF (er : Value) (t : Nat) (w : World) (he : ErrC er) (hv : Env w) (ht0 : w.cell? ⟨t, 0, none⟩ = some (.int .i64 0)) (ht1 : w.cell? ⟨t, 1, none⟩ = some (.int .i64 0)) (hf0 : w.frozen? ⟨t, 0, none⟩ = false) (hf1 : w.frozen? ⟨t, 1, none⟩ = false) :
  Calls Tryz.prog 63 #[er, .iface 98 (.pointer (some ⟨t, 0, none⟩))] w fun e w' => e = .returned (.bool true) ∧ (∃ (ln c : Int), c ≠ 0 ∧ w'.cell? ⟨t, 0, none⟩ = some (.int .i64 ln) ∧ w'.cell? ⟨t, 1, none⟩ = some (.int .i64 c)) ∧ w.grownBy w' (some t) := by
 have h2003 := @run_callFunc_extern Tryz.prog 96 _ (fun args => ReflectliteValue.unpack (args.getD 0 (.tuple #[]))) Tryz.func96 (by kernel_rfl) (by kernel_rfl) (by kernel_rfl) (by kernel_rfl)
 have h5718 := @run_callFunc_extern Tryz.prog 97 _ (ReflectliteValue.methodAny (ReflectliteValue.valueError "reflectlite.Value.Type" 0) (fun t _ _ _ => ReflectliteType.toType t)) Tryz.func97 (by kernel_rfl) (by kernel_rfl) (by kernel_rfl) (by kernel_rfl)
 have h2828 := @run_callFunc_extern Tryz.prog 98 _ (ReflectliteValue.method (ReflectliteValue.valueError "reflectlite.Value.IsNil" 0) ReflectliteValue.isNil) Tryz.func98 (by kernel_rfl) (by kernel_rfl) (by kernel_rfl) (by kernel_rfl)
 have h4149 := @run_callFunc_extern Tryz.prog 237 _ (ReflectliteType.abiMethod fun t => do pure (.int .u8 (← Rtype.kind t))) Tryz.func237 (by kernel_rfl) (by kernel_rfl) (by kernel_rfl) (by kernel_rfl)
 have h6179 := @run_callFunc_extern Tryz.prog 251 _ (ReflectliteType.method ReflectliteType.elem) Tryz.func251 (by kernel_rfl) (by kernel_rfl) (by kernel_rfl) (by kernel_rfl)
 have h3160 := @run_callFunc_extern Tryz.prog 252 _ (ReflectliteType.relation "Implements" ReflectliteType.implements_) Tryz.func252 (by kernel_rfl) (by kernel_rfl) (by kernel_rfl) (by kernel_rfl)
 have f6 := X.valueOfP
 have f7 := X.typeP
 have mK := X.mKind
 have mE := X.mElem
 have mI := X.mImplements
 have k27 := X.kindP
 have k25 := X.kindL
 have e27 := X.elemP
 have i25 := X.implementsL
 have hg : w.cell? ⟨0, 0, none⟩ = some (.iface 185 (.agg #[.pointer (some ⟨7, 76, none⟩)])) := (var?_cell (P := Tryz.prog) (n := "errors.errorType") (by kernel_rfl) (hv.err "errors.errorType" (by kernel_rfl)) 0).trans rfl
 have hlt := z_gJ hg
 have htl := z_gJ ht0
 obtain ⟨W0, HW0⟩ : ∃ W, W = ((w.alloc (.cells #[.pointer (some ⟨t, 0, none⟩)] 98)).alloc (.cells #[.pointer (some ⟨7, 98, none⟩), .pointer (some ⟨w.heap.size, 0, none⟩), .int .u64 150] 144)) := ⟨_, rfl⟩
 have HB0 : Below w.heap.size w W0 := by rw [HW0]; exact ((Below.refl _ _).alloc (Nat.le_refl _) _).alloc (by simp) _
 have hs0 : W0.heap.size = w.heap.size + 2 := by rw [HW0]; simp
 have n8 := X.isNilP ⟨w.heap.size, 0, none⟩ ⟨t, 0, none⟩ W0 (by rw [HW0]; simp)
 have hg2 := (HB0.cell (p := ⟨0, 0, none⟩) hlt).trans hg
 have HF : Hid (W0.cell? ⟨w.heap.size, 0, none⟩ = some (.pointer (some ⟨t, 0, none⟩)) ∧ W0.cell? ⟨t, 0, none⟩ = some (.int .i64 0) ∧ W0.cell? ⟨t, 1, none⟩ = some (.int .i64 0) ∧ W0.frozen? ⟨t, 0, none⟩ = false ∧ W0.frozen? ⟨t, 1, none⟩ = false ∧ t < W0.heap.size ∧ w.heap.size < W0.heap.size) :=
  ⟨by rw [HW0]; simp, (HB0.cell (p := ⟨t, 0, none⟩) htl).trans ht0, (HB0.cell (p := ⟨t, 1, none⟩) htl).trans ht1, (HB0.frozen (p := ⟨t, 0, none⟩) htl).trans hf0, (HB0.frozen (p := ⟨t, 1, none⟩) htl).trans hf1, by simp at htl; omega, by omega⟩
 have HE : Hid (ErrC er) := he
 have HB0 : Hid (Below w.heap.size w W0) := HB0
 subst HW0
 obtain ⟨vt, vx, rfl⟩ := he.form
 go_enter Tryz.func63, Tryz.ntmps63
 go_wp2_with (go_at_call 99; refine (z_nU _ t w.heap.size _ HE.out HF.out.1 HF.out.2.1 HF.out.2.2.1 HF.out.2.2.2.1 HF.out.2.2.2.2.1 HF.out.2.2.2.2.2.1 HF.out.2.2.2.2.2.2).mono ?_; rintro e w1 ⟨rfl, hcs, hgr⟩)
 go_ret
 exact ⟨rfl, hcs, z_ah (z_bt HB0.out) hgr (.inl rfl)⟩
end
end Go.Proofs.YtlbjjbolbopfmaaGreatDoor
