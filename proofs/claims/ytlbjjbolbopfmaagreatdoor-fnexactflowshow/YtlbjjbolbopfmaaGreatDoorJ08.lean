import Derived.Test.YtlbjjbolbopfmaaGreatDoorJ05
namespace Go.Proofs.YtlbjjbolbopfmaaGreatDoor
set_option maxHeartbeats 1000000
set_option linter.unusedVariables false
section
open Go.RowKit
theorem StrsAt.take {A B : Nat} {w : World} {ao : Option Addr} {ss : List ByteArray} (h : StrsAt A B w ao ss) (k : Nat) : StrsAt A B w ao (ss.take k) := by
 intro j hj
 have hj' : j < ss.length := by simp at hj; omega
 have hj2 : j < k := by simp at hj; omega
 obtain ⟨b, off, e, hb, hc⟩ := h j hj'
 exact ⟨b, off, e, hb, by rw [hc]; simp [List.getD, hj2]⟩
theorem StrsAt.drop {A B : Nat} {w : World} {b off : Nat} {ss : List ByteArray} (h : StrsAt A B w (some ⟨b, off, none⟩) ss) (k : Nat) : StrsAt A B w (some ⟨b, off + k, none⟩) (ss.drop k) := by
 intro j hj
 have hj' : k + j < ss.length := by simp at hj; omega
 obtain ⟨b', off', e, hb, hc⟩ := h (k + j) hj'
 simp only [Option.some.injEq, Addr.mk.injEq] at e
 obtain ⟨rfl, rfl, _⟩ := e
 exact ⟨b, off + k, rfl, hb, by rw [Nat.add_assoc, hc]; simp [List.getD]⟩
theorem z_dU {B : Nat} {w w' : World} (h : Below B w.drew w') : Below B w w' := ⟨h.os, h.tape, h.output, h.size, h.block⟩
theorem z_jp (g off : Nat) (cap : Nat) (a b : ByteArray) (r : List ByteArray) (w : World) (hcap : r.length + 2 ≤ cap) (hs : ∀ s ∈ a :: b :: r, s.size ≤ 2199023255552) (hi : StrsAt 0 w.heap.size w (some ⟨g, off, none⟩) (a :: b :: r)) (hl : r.length ≤ 4398046511104)
  (hn : allB z_ac [a, b] = false) :
  Calls Tryz.prog 184 #[.slice (some ⟨g, off, none⟩) (r.length + 2) cap] w fun e w' => ReadEnd (pGet (a :: b :: r)) 0 w e w' := by
 have HN : Hid (pGet (a :: b :: r) = none) := by
  have : ¬ (z_ac a = true ∧ z_ac b = true) := by simpa [allB] using hn
  match r with
  | [] => simp [Hid, pGet, this]
  | [_] => rfl
  | [c, d] => simp only [Hid, pGet]; rw [if_neg]; intro h; exact this ⟨h.1, h.2.1⟩
  | _ :: _ :: _ :: _ => rfl
 obtain ⟨_, _, e0, hB, hc0⟩ := hi.at 0 (by simp)
 cases e0
 obtain ⟨_, _, e1, _, hc1⟩ := hi.at 1 (by simp)
 cases e1
 obtain ⟨_, hBw⟩ := hB
 have c0 : w.cell? ⟨g, off, none⟩ = some (.string a) := hc0
 have c1 : w.cell? ⟨g, off + 1, none⟩ = some (.string b) := hc1
 have HI : Hid (StrsAt 0 w.heap.size w (some ⟨g, off, none⟩) (a :: b :: r)) := hi
 have HS : Hid (∀ s ∈ a :: b :: r, s.size ≤ 2199023255552) := hs
 clear hc0 hc1 hi hs
 go_enter Tryz.func184, Tryz.ntmps184
 go_wp2_with fail
 refine (z_ak _ _ [a, b] w.heap.size _ (by simp) (by simp) (fun s h => by have := HS.out s (by simp at h ⊢; rcases h with h | h <;> simp [h]); omega) ((HI.out.take 2).below ((Below.refl _ _).alloc (Nat.le_refl _) _))).mono ?_
 rintro e w1 ⟨rfl, hb1⟩
 rw [hn]
 obtain ⟨⟨x0, x1, x2, x3, x4⟩, hf, hlt⟩ := box5 hb1
 have HB : Below w.heap.size w w1 := ((Below.refl _ _).alloc (Nat.le_refl _) _).trans (hb1.mono (by simp))
 rw [← HB.cell (p := ⟨g, off, none⟩) hBw] at c0
 rw [← HB.cell (p := ⟨g, off + 1, none⟩) hBw] at c1
 have HB1 : Hid (Below w.heap.size w w1) := HB
 have hg1 : g < w1.heap.size := by omega
 clear hb1 HB
 go_wp2
 refine bodyPost_ret (v := .tuple #[.agg #[.int .i64 0, .string ⟨#[]⟩, .string ⟨#[]⟩, .slice none 0 0, .string ⟨#[]⟩], .bool false]) (by simp [results, Tryz.results184, go_sem, x0, x1, x2, x3, x4]) rfl ?_
 exact ReadEnd.no HN.out rfl (z_aw _ (Nat.le_refl _) HB1.out)
theorem z_ig (g off : Nat) (cap : Nat) (a b : ByteArray) (w : World) (hcap : 2 ≤ cap) (hs : ∀ s ∈ a :: b :: [], s.size ≤ 2199023255552) (hi : StrsAt 0 w.heap.size w (some ⟨g, off, none⟩) (a :: b :: []))
  (hn : allB z_ac [a, b] = true) :
  Calls Tryz.prog 184 #[.slice (some ⟨g, off, none⟩) 2 cap] w fun e w' => ReadEnd (pGet (a :: b :: [])) 0 w e w' := by
 have HN : Hid (pGet [a, b] = some ⟨a, b, [], eS⟩) := by
  have : z_ac a = true ∧ z_ac b = true := by simpa [allB] using hn
  simp [Hid, pGet, this]
 obtain ⟨_, _, e0, hB, hc0⟩ := hi.at 0 (by simp)
 cases e0
 obtain ⟨_, _, e1, _, hc1⟩ := hi.at 1 (by simp)
 cases e1
 obtain ⟨_, hBw⟩ := hB
 have c0 : w.cell? ⟨g, off, none⟩ = some (.string a) := hc0
 have c1 : w.cell? ⟨g, off + 1, none⟩ = some (.string b) := hc1
 have HI : Hid (StrsAt 0 w.heap.size w (some ⟨g, off, none⟩) (a :: b :: [])) := hi
 have HS : Hid (∀ s ∈ a :: b :: [], s.size ≤ 2199023255552) := hs
 clear hc0 hc1 hi hs
 go_enter Tryz.func184, Tryz.ntmps184
 go_wp2_with fail
 refine (z_ak _ _ [a, b] w.heap.size _ (by simp) (by simp) (fun s h => by have := HS.out s (by simp at h ⊢; rcases h with h | h <;> simp [h]); omega) ((HI.out.take 2).below ((Below.refl _ _).alloc (Nat.le_refl _) _))).mono ?_
 rintro e w1 ⟨rfl, hb1⟩
 rw [hn]
 obtain ⟨⟨x0, x1, x2, x3, x4⟩, hf, hlt⟩ := box5 hb1
 have HB : Below w.heap.size w w1 := ((Below.refl _ _).alloc (Nat.le_refl _) _).trans (hb1.mono (by simp))
 rw [← HB.cell (p := ⟨g, off, none⟩) hBw] at c0
 rw [← HB.cell (p := ⟨g, off + 1, none⟩) hBw] at c1
 have HB1 : Hid (Below w.heap.size w w1) := HB
 have hg1 : g < w1.heap.size := by omega
 clear hb1 HB
 go_wp2_with fail
 go_region
 all_goals
  go_wp2
  refine bodyPost_ret (v := .tuple #[.agg #[.int .i64 0, .string a, .string b, .slice none 0 0, .string ⟨#[]⟩], .bool true]) (by simp [results, Tryz.results184, go_sem, x0, x1, x2, x3, x4, hlt]) rfl ?_
  refine ReadEnd.yes (v := .agg #[.int .i64 0, .string a, .string b, .slice none 0 0, .string ⟨#[]⟩]) HN.out rfl ?_ ?_
  ·refine Below.drew ?_
   refine Below.alloc ?_ ?_ _
   ·exact z_aw _ (Nat.le_refl _) HB1.out
   ·rw [z_bu]; omega
  ·exact ⟨none, 0, rfl, Nat.le_refl _, StrsAt.nil _ _ _ _⟩
theorem z_dH (g off : Nat) (cap : Nat) (a b : ByteArray) (r : List ByteArray) (w : World) (hcap : r.length + 2 ≤ cap) (hs : ∀ s ∈ a :: b :: r, s.size ≤ 2199023255552) (hi : StrsAt 0 w.heap.size w (some ⟨g, off, none⟩) (a :: b :: r)) (hl : r.length ≤ 4398046511104)
  (hn : allB z_ac [a, b] = true) (h0 : r.length ≠ 0) (h2 : r.length ≠ 2) :
  Calls Tryz.prog 184 #[.slice (some ⟨g, off, none⟩) (r.length + 2) cap] w fun e w' => ReadEnd (pGet (a :: b :: r)) 0 w e w' := by
 have HN : Hid (pGet (a :: b :: r) = none) := by
  match r, h0, h2 with
  | [], h0, _ => simp at h0
  | [_], _, _ => rfl
  | [c, d], _, h2 => simp at h2
  | _ :: _ :: _ :: _, _, _ => rfl
 have q2 : ((r.length : Int) + 2 == 2) = false := by simp; omega
 have q4 : ((r.length : Int) + 2 == 4) = false := by simp; omega
 have q1 : decide ((r.length : Int) + 2 < 2) = false := by simp; omega
 obtain ⟨_, _, e0, hB, hc0⟩ := hi.at 0 (by simp)
 cases e0
 obtain ⟨_, _, e1, _, hc1⟩ := hi.at 1 (by simp)
 cases e1
 obtain ⟨_, hBw⟩ := hB
 have c0 : w.cell? ⟨g, off, none⟩ = some (.string a) := hc0
 have c1 : w.cell? ⟨g, off + 1, none⟩ = some (.string b) := hc1
 have HI : Hid (StrsAt 0 w.heap.size w (some ⟨g, off, none⟩) (a :: b :: r)) := hi
 have HS : Hid (∀ s ∈ a :: b :: r, s.size ≤ 2199023255552) := hs
 clear hc0 hc1 hi hs
 go_enter Tryz.func184, Tryz.ntmps184
 go_wp2_with fail
 refine (z_ak _ _ [a, b] w.heap.size _ (by simp) (by simp) (fun s h => by have := HS.out s (by simp at h ⊢; rcases h with h | h <;> simp [h]); omega) ((HI.out.take 2).below ((Below.refl _ _).alloc (Nat.le_refl _) _))).mono ?_
 rintro e w1 ⟨rfl, hb1⟩
 rw [hn]
 obtain ⟨⟨x0, x1, x2, x3, x4⟩, hf, hlt⟩ := box5 hb1
 have HB : Below w.heap.size w w1 := ((Below.refl _ _).alloc (Nat.le_refl _) _).trans (hb1.mono (by simp))
 rw [← HB.cell (p := ⟨g, off, none⟩) hBw] at c0
 rw [← HB.cell (p := ⟨g, off + 1, none⟩) hBw] at c1
 have HB1 : Hid (Below w.heap.size w w1) := HB
 have hg1 : g < w1.heap.size := by omega
 clear hb1 HB
 go_wp2_with fail
 go_region
 all_goals
  go_wp2
  refine bodyPost_ret (v := .tuple #[.agg #[.int .i64 0, .string ⟨#[]⟩, .string ⟨#[]⟩, .slice none 0 0, .string ⟨#[]⟩], .bool false]) (by simp [results, Tryz.results184, go_sem, x0, x1, x2, x3, x4, hlt]) rfl ?_
  refine ReadEnd.no HN.out rfl ?_
  refine Below.drew ?_
  refine Below.alloc ?_ ?_ _
  ·exact z_aw _ (Nat.le_refl _) HB1.out
  ·rw [z_bu]; omega
theorem z_g4 (g off : Nat) (cap : Nat) (a b : ByteArray) (c d : ByteArray) (w : World) (hcap : 4 ≤ cap) (hs : ∀ s ∈ a :: b :: [c, d], s.size ≤ 2199023255552) (hi : StrsAt 0 w.heap.size w (some ⟨g, off, none⟩) (a :: b :: [c, d]))
  (hn : allB z_ac [a, b] = true) (hq : (c.toList == [102, 111, 114]) = false) :
  Calls Tryz.prog 184 #[.slice (some ⟨g, off, none⟩) 4 cap] w fun e w' => ReadEnd (pGet (a :: b :: [c, d])) 0 w e w' := by
 have HN : Hid (pGet [a, b, c, d] = none) := by simp [Hid, pGet, hq]
 obtain ⟨_, _, e0, hB, hc0⟩ := hi.at 0 (by simp)
 cases e0
 obtain ⟨_, _, e1, _, hc1⟩ := hi.at 1 (by simp)
 cases e1
 obtain ⟨_, hBw⟩ := hB
 have c0 : w.cell? ⟨g, off, none⟩ = some (.string a) := hc0
 have c1 : w.cell? ⟨g, off + 1, none⟩ = some (.string b) := hc1
 obtain ⟨_, _, e2, _, hc2⟩ := hi.at 2 (by simp)
 cases e2
 obtain ⟨_, _, e3, _, hc3⟩ := hi.at 3 (by simp)
 cases e3
 have c2 : w.cell? ⟨g, off + 2, none⟩ = some (.string c) := hc2
 have c3 : w.cell? ⟨g, off + 3, none⟩ = some (.string d) := hc3
 have HI : Hid (StrsAt 0 w.heap.size w (some ⟨g, off, none⟩) (a :: b :: [c, d])) := hi
 have HS : Hid (∀ s ∈ a :: b :: [c, d], s.size ≤ 2199023255552) := hs
 clear hc0 hc1 hc2 hc3 hi hs
 go_enter Tryz.func184, Tryz.ntmps184
 go_wp2_with fail
 refine (z_ak _ _ [a, b] w.heap.size _ (by simp) (by simp) (fun s h => by have := HS.out s (by simp at h ⊢; rcases h with h | h <;> simp [h]); omega) ((HI.out.take 2).below ((Below.refl _ _).alloc (Nat.le_refl _) _))).mono ?_
 rintro e w1 ⟨rfl, hb1⟩
 rw [hn]
 obtain ⟨⟨x0, x1, x2, x3, x4⟩, hf, hlt⟩ := box5 hb1
 have HB : Below w.heap.size w w1 := ((Below.refl _ _).alloc (Nat.le_refl _) _).trans (hb1.mono (by simp))
 rw [← HB.cell (p := ⟨g, off, none⟩) hBw] at c0
 rw [← HB.cell (p := ⟨g, off + 1, none⟩) hBw] at c1
 rw [← HB.cell (p := ⟨g, off + 2, none⟩) hBw] at c2
 rw [← HB.cell (p := ⟨g, off + 3, none⟩) hBw] at c3
 have HB1 : Hid (Below w.heap.size w w1) := HB
 have hg1 : g < w1.heap.size := by omega
 clear hb1 HB
 go_wp2_with fail
 go_region
 all_goals
  go_wp2
  refine bodyPost_ret (v := .tuple #[.agg #[.int .i64 0, .string ⟨#[]⟩, .string ⟨#[]⟩, .slice none 0 0, .string ⟨#[]⟩], .bool false]) (by simp [results, Tryz.results184, go_sem, x0, x1, x2, x3, x4, hlt]) rfl ?_
  refine ReadEnd.no HN.out rfl ?_
  refine Below.drew ?_
  refine Below.alloc ?_ ?_ _
  ·exact z_aw _ (Nat.le_refl _) HB1.out
  ·rw [z_bu]; omega
theorem z_i3 (g off : Nat) (cap : Nat) (a b : ByteArray) (c d : ByteArray) (w : World) (hcap : 4 ≤ cap) (hs : ∀ s ∈ a :: b :: [c, d], s.size ≤ 2199023255552) (hi : StrsAt 0 w.heap.size w (some ⟨g, off, none⟩) (a :: b :: [c, d]))
  (hn : allB z_ac [a, b] = true) (hq : (c.toList == [102, 111, 114]) = true) (hod : z_an d = false) (he : Env w) :
  Calls Tryz.prog 184 #[.slice (some ⟨g, off, none⟩) 4 cap] w fun e w' => ReadEnd (pGet (a :: b :: [c, d])) 0 w e w' := by
 have HN : Hid (pGet [a, b, c, d] = none) := by simp [Hid, pGet, hod]
 have HE : Hid (Env w) := he
 clear he
 have hsd : d.size ≤ 2199023255552 := hs d (by simp)
 obtain ⟨_, _, e0, hB, hc0⟩ := hi.at 0 (by simp)
 cases e0
 obtain ⟨_, _, e1, _, hc1⟩ := hi.at 1 (by simp)
 cases e1
 obtain ⟨_, hBw⟩ := hB
 have c0 : w.cell? ⟨g, off, none⟩ = some (.string a) := hc0
 have c1 : w.cell? ⟨g, off + 1, none⟩ = some (.string b) := hc1
 obtain ⟨_, _, e2, _, hc2⟩ := hi.at 2 (by simp)
 cases e2
 obtain ⟨_, _, e3, _, hc3⟩ := hi.at 3 (by simp)
 cases e3
 have c2 : w.cell? ⟨g, off + 2, none⟩ = some (.string c) := hc2
 have c3 : w.cell? ⟨g, off + 3, none⟩ = some (.string d) := hc3
 have HI : Hid (StrsAt 0 w.heap.size w (some ⟨g, off, none⟩) (a :: b :: [c, d])) := hi
 have HS : Hid (∀ s ∈ a :: b :: [c, d], s.size ≤ 2199023255552) := hs
 clear hc0 hc1 hc2 hc3 hi hs
 go_enter Tryz.func184, Tryz.ntmps184
 go_wp2_with fail
 refine (z_ak _ _ [a, b] w.heap.size _ (by simp) (by simp) (fun s h => by have := HS.out s (by simp at h ⊢; rcases h with h | h <;> simp [h]); omega) ((HI.out.take 2).below ((Below.refl _ _).alloc (Nat.le_refl _) _))).mono ?_
 rintro e w1 ⟨rfl, hb1⟩
 rw [hn]
 obtain ⟨⟨x0, x1, x2, x3, x4⟩, hf, hlt⟩ := box5 hb1
 have HB : Below w.heap.size w w1 := ((Below.refl _ _).alloc (Nat.le_refl _) _).trans (hb1.mono (by simp))
 rw [← HB.cell (p := ⟨g, off, none⟩) hBw] at c0
 rw [← HB.cell (p := ⟨g, off + 1, none⟩) hBw] at c1
 rw [← HB.cell (p := ⟨g, off + 2, none⟩) hBw] at c2
 rw [← HB.cell (p := ⟨g, off + 3, none⟩) hBw] at c3
 have HB1 : Hid (Below w.heap.size w w1) := HB
 have hg1 : g < w1.heap.size := by omega
 clear hb1 HB
 go_wp2_with fail
 go_region
 all_goals
  go_wp2_with fail
  refine (z_aU _ _ hsd (HE.out.later ((HB1.out.alloc (by omega) _).drew))).mono ?_
  rintro e w2 ⟨rfl, hb2⟩
  rw [hod]
  have hb2' := z_dU hb2
  obtain ⟨⟨y0, y1, y2, y3, y4⟩, hfy, hlty⟩ := box5 hb2'
  have H12 : Below w1.heap.size w1 w2 := ((Below.refl _ _).alloc (Nat.le_refl _) _).trans (hb2'.mono (by simp))
  obtain ⟨hc2', hf2'⟩ := z_ch H12
  rw [← hc2' _ _ hlt] at x0 x1 x2 x3 x4
  have hfx : ∀ o, w2.frozen? ⟨w.heap.size, o, none⟩ = false := fun o => by rw [hf2' _ _ hlt]; exact hf o
  have HB2 : Hid (Below w.heap.size w w2) := HB1.out.trans (H12.mono (by omega))
  have hne : w.heap.size ≠ w1.heap.size := by omega
  have hlt2 : w.heap.size < w2.heap.size := by omega
  clear hb2 hb2' hc2' hf2' H12 hf
  go_wp2
  refine bodyPost_ret (v := .tuple #[.agg #[.int .i64 0, .string ⟨#[]⟩, .string ⟨#[]⟩, .slice none 0 0, .string ⟨#[]⟩], .bool false]) (by simp [results, Tryz.results184, go_sem, x0, x1, x2, x3, x4]) rfl ?_
  exact ReadEnd.no HN.out rfl (z_aw _ (Nat.le_refl _) HB2.out)
theorem z_iX (g off : Nat) (cap : Nat) (a b : ByteArray) (c d : ByteArray) (w : World) (hcap : 4 ≤ cap) (hs : ∀ s ∈ a :: b :: [c, d], s.size ≤ 2199023255552) (hi : StrsAt 0 w.heap.size w (some ⟨g, off, none⟩) (a :: b :: [c, d]))
  (hn : allB z_ac [a, b] = true) (hq : (c.toList == [102, 111, 114]) = true) (hod : z_an d = true) (he : Env w) :
  Calls Tryz.prog 184 #[.slice (some ⟨g, off, none⟩) 4 cap] w fun e w' => ReadEnd (pGet (a :: b :: [c, d])) 0 w e w' := by
 have HN : Hid (pGet [a, b, c, d] = some ⟨a, b, [d], eS⟩) := by
  have : z_ac a = true ∧ z_ac b = true := by simpa [allB] using hn
  simp only [Hid, pGet]; rw [if_pos ⟨this.1, this.2, hq, hod⟩]
 have HE : Hid (Env w) := he
 clear he
 have hsd : d.size ≤ 2199023255552 := hs d (by simp)
 obtain ⟨_, _, e0, hB, hc0⟩ := hi.at 0 (by simp)
 cases e0
 obtain ⟨_, _, e1, _, hc1⟩ := hi.at 1 (by simp)
 cases e1
 obtain ⟨_, hBw⟩ := hB
 have c0 : w.cell? ⟨g, off, none⟩ = some (.string a) := hc0
 have c1 : w.cell? ⟨g, off + 1, none⟩ = some (.string b) := hc1
 obtain ⟨_, _, e2, _, hc2⟩ := hi.at 2 (by simp)
 cases e2
 obtain ⟨_, _, e3, _, hc3⟩ := hi.at 3 (by simp)
 cases e3
 have c2 : w.cell? ⟨g, off + 2, none⟩ = some (.string c) := hc2
 have c3 : w.cell? ⟨g, off + 3, none⟩ = some (.string d) := hc3
 have HI : Hid (StrsAt 0 w.heap.size w (some ⟨g, off, none⟩) (a :: b :: [c, d])) := hi
 have HS : Hid (∀ s ∈ a :: b :: [c, d], s.size ≤ 2199023255552) := hs
 clear hc0 hc1 hc2 hc3 hi hs
 go_enter Tryz.func184, Tryz.ntmps184
 go_wp2_with fail
 refine (z_ak _ _ [a, b] w.heap.size _ (by simp) (by simp) (fun s h => by have := HS.out s (by simp at h ⊢; rcases h with h | h <;> simp [h]); omega) ((HI.out.take 2).below ((Below.refl _ _).alloc (Nat.le_refl _) _))).mono ?_
 rintro e w1 ⟨rfl, hb1⟩
 rw [hn]
 obtain ⟨⟨x0, x1, x2, x3, x4⟩, hf, hlt⟩ := box5 hb1
 have HB : Below w.heap.size w w1 := ((Below.refl _ _).alloc (Nat.le_refl _) _).trans (hb1.mono (by simp))
 rw [← HB.cell (p := ⟨g, off, none⟩) hBw] at c0
 rw [← HB.cell (p := ⟨g, off + 1, none⟩) hBw] at c1
 rw [← HB.cell (p := ⟨g, off + 2, none⟩) hBw] at c2
 rw [← HB.cell (p := ⟨g, off + 3, none⟩) hBw] at c3
 have HB1 : Hid (Below w.heap.size w w1) := HB
 have hg1 : g < w1.heap.size := by omega
 clear hb1 HB
 go_wp2_with fail
 go_region
 all_goals
  go_wp2_with fail
  refine (z_aU _ _ hsd (HE.out.later ((HB1.out.alloc (by omega) _).drew))).mono ?_
  rintro e w2 ⟨rfl, hb2⟩
  rw [hod]
  have hb2' := z_dU hb2
  obtain ⟨⟨y0, y1, y2, y3, y4⟩, hfy, hlty⟩ := box5 hb2'
  have H12 : Below w1.heap.size w1 w2 := ((Below.refl _ _).alloc (Nat.le_refl _) _).trans (hb2'.mono (by simp))
  obtain ⟨hc2', hf2'⟩ := z_ch H12
  rw [← hc2' _ _ hlt] at x0 x1 x2 x3 x4
  have hfx : ∀ o, w2.frozen? ⟨w.heap.size, o, none⟩ = false := fun o => by rw [hf2' _ _ hlt]; exact hf o
  have HB2 : Hid (Below w.heap.size w w2) := HB1.out.trans (H12.mono (by omega))
  have hne : w.heap.size ≠ w1.heap.size := by omega
  have hlt2 : w.heap.size < w2.heap.size := by omega
  clear hb2 hb2' hc2' hf2' H12 hf
  go_wp2_with fail
  refine (z_bc (some ⟨g, off + 3, none⟩) (cap - 3) [d] _ (by simp) (((HI.out.drop 3).mono (Nat.le_refl _) (Nat.le_refl _)).later HB2.out)).mono ?_
  rintro e w3 ⟨v, rfl, hb3, bo, cap', rfl, hcp, hv⟩
  obtain ⟨hc3', hf3'⟩ := z_ch hb3
  rw [← hc3' _ _ hlt2] at x0 x1 x2 x3 x4
  rw [← hc3' _ _ hlty] at y0 y1 y2 y3 y4
  have hfx3 : ∀ o, w3.frozen? ⟨w.heap.size, o, none⟩ = false := fun o => by rw [hf3' _ _ hlt2]; exact hfx o
  have hfy3 : ∀ o, w3.frozen? ⟨w1.heap.size, o, none⟩ = false := fun o => by rw [hf3' _ _ hlty]; exact hfy o
  have HB3 : Hid (Below w.heap.size w w3) := HB2.out.trans (hb3.mono (by omega))
  have HV : Hid (StrsAt w2.heap.size w3.heap.size w3 bo [d]) := hv
  have hlt3 : w.heap.size < w3.heap.size := by have := hb3.size; omega
  have hlty3 : w1.heap.size < w3.heap.size := by have := hb3.size; omega
  clear hb3 hc3' hf3' hfx hfy hv
  go_wp2
  refine bodyPost_ret (v := .tuple #[.agg #[.int .i64 0, .string a, .string b, .slice bo 1 cap', .string ⟨#[]⟩], .bool true]) (by simp [results, Tryz.results184, go_sem, x0, x1, x2, x3, x4]) rfl ?_
  refine ReadEnd.yes (v := .agg #[.int .i64 0, .string a, .string b, .slice bo 1 cap', .string ⟨#[]⟩]) HN.out rfl ?_ ?_
  ·exact z_aw _ (Nat.le_refl _) (HB3.out.setCell (by simp; omega) _)
  ·refine ⟨bo, cap', rfl, hcp, ?_⟩
   rw [z_bu]
   have es : (w3.setCell ⟨w1.heap.size, 3, none⟩ (.slice bo 1 cap')).heap.size = w3.heap.size := by simp [World.setCell]
   rw [es]
   exact ((HV.out.setCell (by simp; omega) _).set5 _ (.inl (by omega))).mono (by omega) (Nat.le_refl _)
theorem z_jH (ao : Option Addr) (cap : Nat) (ws : List ByteArray) (w : World) (hcap : ws.length ≤ cap) (hl : ws.length ≤ 4398046511104) (hs : ∀ s ∈ ws, s.size ≤ 2199023255552) (hi : StrsAt 0 w.heap.size w ao ws) (he : Env w) :
  Calls Tryz.prog 184 #[.slice ao ws.length cap] w fun e w' => ReadEnd (pGet ws) 0 w e w' := by
 by_cases h2 : ws.length < 2
 ·have HN : Hid (pGet ws = none) := by
   match ws, h2 with
   | [], _ => rfl
   | [_], _ => rfl
   | _ :: _ :: _, h2 => simp at h2; omega
  have h3 : (ws.length : Int) < 2 := by omega
  go_enter Tryz.func184, Tryz.ntmps184
  go_wp2
  refine bodyPost_ret (v := .tuple #[.agg #[.int .i64 0, .string ⟨#[]⟩, .string ⟨#[]⟩, .slice none 0 0, .string ⟨#[]⟩], .bool false]) (by simp [results, Tryz.results184, go_sem]) rfl ?_
  exact ReadEnd.no HN.out rfl ((Below.refl _ _).alloc (Nat.le_refl _) _)
 ·match ws, h2, hcap, hl, hs, hi with
  | [], h2, _, _, _, _ => simp at h2
  | [_], h2, _, _, _, _ => simp at h2
  | a :: b :: r, _, hcap, hl, hs, hi =>
   obtain ⟨g, off, rfl, _, _⟩ := hi.at 0 (by simp)
   simp only [List.length_cons] at hl hcap ⊢
   cases hn : allB z_ac [a, b] with
   | false => exact z_jp g off cap a b r w hcap hs hi (by omega) hn
   | true =>
    match r, hcap, hs, hi with
    | [], hcap, hs, hi => exact z_ig g off cap a b w hcap hs hi hn
    | [c], hcap, hs, hi => exact z_dH g off cap a b [c] w hcap hs hi (by simp) hn (by simp) (by simp)
    | [c, d], hcap, hs, hi =>
     cases hq : (c.toList == [102, 111, 114]) with
     | false => exact z_g4 g off cap a b c d w hcap hs hi hn hq
     | true =>
      cases hod : z_an d with
      | false => exact z_i3 g off cap a b c d w hcap hs hi hn hq hod he
      | true => exact z_iX g off cap a b c d w hcap hs hi hn hq hod he
    | c :: d :: e :: r, hcap, hs, hi => exact z_dH g off cap a b (c :: d :: e :: r) w hcap hs hi (by simp at hl ⊢; omega) hn (by simp) (by simp)
end
section
open Go.RowKit
theorem z_aD (w : World) (a : Addr) (u : Value) (o : Nat) {b : Nat} (h : b ≠ a.block) : (w.setCell a u).cell? ⟨b, o, none⟩ = w.cell? ⟨b, o, none⟩ := World.cell?_of_block (w := w) (Below.heap_setCell w a u b h)
theorem z_ny {w1 : World} {v0 v1 v2 v3 v4 : Value} (g : Nat) {b o : Nat} (h : b ≠ g) : (((((w1.setCell ⟨g, 0, none⟩ v0).setCell ⟨g, 1, none⟩ v1).setCell ⟨g, 2, none⟩ v2).setCell ⟨g, 3, none⟩ v3).setCell ⟨g, 4, none⟩ v4).cell? ⟨b, o, none⟩ = w1.cell? ⟨b, o, none⟩ := by
 rw [z_aD _ _ _ _ h, z_aD _ _ _ _ h, z_aD _ _ _ _ h, z_aD _ _ _ _ h, z_aD _ _ _ _ h]
theorem z_gv (g off : Nat) (cap : Nat) (a : ByteArray) (r : List ByteArray) (w : World) (hl : r.length ≤ 4398046511103) (hs : ∀ s ∈ a :: r, s.size ≤ 2199023255552) (hi : StrsAt 0 w.heap.size w (some ⟨g, off, none⟩) (a :: r))
  (h3 : 3 < r.length) :
  Calls Tryz.prog 181 #[.slice (some ⟨g, off, none⟩) (r.length + 1) cap] w fun e w' => ReadEnd (pHead (a :: r)) 0 w e w' := by
 obtain ⟨_, _, e0, hB, hc0⟩ := hi.at 0 (by simp)
 cases e0
 obtain ⟨_, hBw⟩ := hB
 have c0 : w.cell? ⟨g, off, none⟩ = some (.string a) := hc0
 have HI : Hid (StrsAt 0 w.heap.size w (some ⟨g, off, none⟩) (a :: r)) := hi
 have HS : Hid (∀ s ∈ a :: r, s.size ≤ 2199023255552) := hs
 clear hc0 hi hs
 have HN : Hid (pHead (a :: r) = none) := by
  simp only [Hid, pHead]; rw [if_neg]; intro h; omega
 go_enter Tryz.func181, Tryz.ntmps181
 go_wp2
 refine bodyPost_ret (v := .tuple #[.agg #[.int .i64 0, .string ⟨#[]⟩, .string ⟨#[]⟩, .slice none 0 0, .string ⟨#[]⟩], .bool false]) (by simp [results, Tryz.results181, go_sem]) rfl ?_
 exact ReadEnd.no HN.out rfl ((Below.refl _ _).alloc (Nat.le_refl _) _)
theorem z_fo (g off : Nat) (cap : Nat) (a : ByteArray) (r : List ByteArray) (w : World) (hl : r.length ≤ 4398046511103) (hs : ∀ s ∈ a :: r, s.size ≤ 2199023255552) (hi : StrsAt 0 w.heap.size w (some ⟨g, off, none⟩) (a :: r))
  (h3 : r.length ≤ 3) (ha : allB z_ac (a :: r) = false) :
  Calls Tryz.prog 181 #[.slice (some ⟨g, off, none⟩) (r.length + 1) cap] w fun e w' => ReadEnd (pHead (a :: r)) 0 w e w' := by
 obtain ⟨_, _, e0, hB, hc0⟩ := hi.at 0 (by simp)
 cases e0
 obtain ⟨_, hBw⟩ := hB
 have c0 : w.cell? ⟨g, off, none⟩ = some (.string a) := hc0
 have HI : Hid (StrsAt 0 w.heap.size w (some ⟨g, off, none⟩) (a :: r)) := hi
 have HS : Hid (∀ s ∈ a :: r, s.size ≤ 2199023255552) := hs
 clear hc0 hi hs
 have HN : Hid (pHead (a :: r) = none) := by
  simp only [Hid, pHead]; rw [if_neg]; intro h; rw [ha] at h; cases h.2.1
 go_enter Tryz.func181, Tryz.ntmps181
 go_wp2_with fail
 refine (z_ak (some ⟨g, off, none⟩) cap (a :: r) w.heap.size _ (by simp) (by simp; omega) (fun s h => by have := HS.out s h; omega) (HI.out.below ((Below.refl _ _).alloc (Nat.le_refl _) _))).mono ?_
 rintro e w1 ⟨rfl, hb1⟩
 rw [ha]
 obtain ⟨⟨x0, x1, x2, x3, x4⟩, hf, hlt⟩ := box5 hb1
 have HB : Below w.heap.size w w1 := ((Below.refl _ _).alloc (Nat.le_refl _) _).trans (hb1.mono (by simp))
 rw [← HB.cell (p := ⟨g, off, none⟩) hBw] at c0
 have HB1 : Hid (Below w.heap.size w w1) := HB
 have hg1 : g < w1.heap.size := by omega
 clear hb1 HB
 go_wp2
 refine bodyPost_ret (v := .tuple #[.agg #[.int .i64 0, .string ⟨#[]⟩, .string ⟨#[]⟩, .slice none 0 0, .string ⟨#[]⟩], .bool false]) (by simp [results, Tryz.results181, go_sem, x0, x1, x2, x3, x4]) rfl ?_
 exact ReadEnd.no HN.out rfl (z_aw _ (Nat.le_refl _) HB1.out)
theorem z_iG (g off : Nat) (cap : Nat) (a : ByteArray) (r : List ByteArray) (w : World) (hcap : r.length + 1 ≤ cap) (hcap1 : 1 < cap) (hl : r.length ≤ 4398046511103) (hs : ∀ s ∈ a :: r, s.size ≤ 2199023255552) (hi : StrsAt 0 w.heap.size w (some ⟨g, off, none⟩) (a :: r))
  (h3 : r.length ≤ 3) (ha : allB z_ac (a :: r) = true) (hr : z_cB r r.length = true) :
  Calls Tryz.prog 181 #[.slice (some ⟨g, off, none⟩) (r.length + 1) cap] w fun e w' => ReadEnd (pHead (a :: r)) 0 w e w' := by
 obtain ⟨_, _, e0, hB, hc0⟩ := hi.at 0 (by simp)
 cases e0
 obtain ⟨_, hBw⟩ := hB
 have c0 : w.cell? ⟨g, off, none⟩ = some (.string a) := hc0
 have HI : Hid (StrsAt 0 w.heap.size w (some ⟨g, off, none⟩) (a :: r)) := hi
 have HS : Hid (∀ s ∈ a :: r, s.size ≤ 2199023255552) := hs
 clear hc0 hi hs
 have HN : Hid (pHead (a :: r) = none) := by
  simp only [Hid, pHead]; rw [if_neg]; intro h; rw [hr] at h; cases h.2.2
 go_enter Tryz.func181, Tryz.ntmps181
 go_wp2_with fail
 refine (z_ak (some ⟨g, off, none⟩) cap (a :: r) w.heap.size _ (by simp) (by simp; omega) (fun s h => by have := HS.out s h; omega) (HI.out.below ((Below.refl _ _).alloc (Nat.le_refl _) _))).mono ?_
 rintro e w1 ⟨rfl, hb1⟩
 rw [ha]
 obtain ⟨⟨x0, x1, x2, x3, x4⟩, hf, hlt⟩ := box5 hb1
 have HB : Below w.heap.size w w1 := ((Below.refl _ _).alloc (Nat.le_refl _) _).trans (hb1.mono (by simp))
 rw [← HB.cell (p := ⟨g, off, none⟩) hBw] at c0
 have HB1 : Hid (Below w.heap.size w w1) := HB
 have hg1 : g < w1.heap.size := by omega
 clear hb1 HB
 have HT : Hid (StrsAt 0 w1.heap.size w1 (some ⟨g, off + 1, none⟩) r) := (HI.out.drop 1).later HB1.out
 go_wp2_with fail
 refine (z_dy (some ⟨g, off + 1, none⟩) (cap - 1) r _ (by omega) (by omega) HT.out).mono ?_
 rintro e w' ⟨rfl, rfl⟩
 rw [hr]
 go_wp2
 refine bodyPost_ret (v := .tuple #[.agg #[.int .i64 0, .string ⟨#[]⟩, .string ⟨#[]⟩, .slice none 0 0, .string ⟨#[]⟩], .bool false]) (by simp [results, Tryz.results181, go_sem, x0, x1, x2, x3, x4]) rfl ?_
 exact ReadEnd.no HN.out rfl (z_aw _ (Nat.le_refl _) HB1.out)
theorem z_ii (g off : Nat) (cap : Nat) (a : ByteArray) (r : List ByteArray) (w : World) (hcap : r.length + 1 ≤ cap) (hcap1 : 1 < cap) (hl : r.length ≤ 4398046511103) (hs : ∀ s ∈ a :: r, s.size ≤ 2199023255552) (hi : StrsAt 0 w.heap.size w (some ⟨g, off, none⟩) (a :: r))
  (h3 : r.length ≤ 3) (ha : allB z_ac (a :: r) = true) (hr : z_cB r r.length = false) :
  Calls Tryz.prog 181 #[.slice (some ⟨g, off, none⟩) (r.length + 1) cap] w fun e w' => ReadEnd (pHead (a :: r)) 0 w e w' := by
 obtain ⟨_, _, e0, hB, hc0⟩ := hi.at 0 (by simp)
 cases e0
 obtain ⟨_, hBw⟩ := hB
 have c0 : w.cell? ⟨g, off, none⟩ = some (.string a) := hc0
 have HI : Hid (StrsAt 0 w.heap.size w (some ⟨g, off, none⟩) (a :: r)) := hi
 have HS : Hid (∀ s ∈ a :: r, s.size ≤ 2199023255552) := hs
 clear hc0 hi hs
 have HN : Hid (pHead (a :: r) = some ⟨eS, a, r, eS⟩) := by
  simp only [Hid, pHead]; rw [if_pos ⟨h3, ha, hr⟩]
 go_enter Tryz.func181, Tryz.ntmps181
 go_wp2_with fail
 refine (z_ak (some ⟨g, off, none⟩) cap (a :: r) w.heap.size _ (by simp) (by simp; omega) (fun s h => by have := HS.out s h; omega) (HI.out.below ((Below.refl _ _).alloc (Nat.le_refl _) _))).mono ?_
 rintro e w1 ⟨rfl, hb1⟩
 rw [ha]
 obtain ⟨⟨x0, x1, x2, x3, x4⟩, hf, hlt⟩ := box5 hb1
 have HB : Below w.heap.size w w1 := ((Below.refl _ _).alloc (Nat.le_refl _) _).trans (hb1.mono (by simp))
 rw [← HB.cell (p := ⟨g, off, none⟩) hBw] at c0
 have HB1 : Hid (Below w.heap.size w w1) := HB
 have hg1 : g < w1.heap.size := by omega
 clear hb1 HB
 have HT : Hid (StrsAt 0 w1.heap.size w1 (some ⟨g, off + 1, none⟩) r) := (HI.out.drop 1).later HB1.out
 go_wp2_with fail
 refine (z_dy (some ⟨g, off + 1, none⟩) (cap - 1) r _ (by omega) (by omega) HT.out).mono ?_
 rintro e w' ⟨rfl, rfl⟩
 rw [hr]
 go_wp2_with fail
 have hgne : g ≠ w.heap.size := by omega
 go_region_held3 (fun wx => wx.cell? ⟨g, off, none⟩ = some (.string a))
  (first | (go_keep; done) | (rw [z_ny _ (by omega)]; assumption))
  (first
   | (go_at_call 88; refine (z_bc (some ⟨g, off + 1, none⟩) (cap - 1) r _ (by omega) (HT.out.later (Below.refl _ _).drew)).mono ?_; rintro e w3 ⟨v, rfl, hb3, bo, cap', rfl, hcp, hv⟩; have H3 : Below w'.heap.size w' w3 := (Below.refl _ _).drew.trans hb3; have HV : Hid (StrsAt w'.heap.size w3.heap.size w3 bo r) := hv; have HB3 : Hid (Below w.heap.size w w3) := HB1.out.trans (H3.mono (by omega)); obtain ⟨hq, hfq⟩ := z_ch H3; have c3 := (hq g off hg1).trans c0; have y0 := (hq _ 0 hlt).trans x0; have y1 := (hq _ 1 hlt).trans x1; have y2 := (hq _ 2 hlt).trans x2; have y3 := (hq _ 3 hlt).trans x3; have y4 := (hq _ 4 hlt).trans x4; have hf3 : ∀ o, w3.frozen? ⟨w.heap.size, o, none⟩ = false := (fun o => (hfq _ o hlt).trans (hf o)); clear hb3 hv H3 hq hfq))
 all_goals
  go_wp2
  refine bodyPost_ret (v := .tuple #[.agg #[.int .i64 0, .string ⟨#[]⟩, .string a, .slice bo r.length cap', .string ⟨#[]⟩], .bool true]) (by simp [results, Tryz.results181, go_sem, y0, y1, y2, y3, y4]) rfl ?_
  refine ReadEnd.yes (v := .agg #[.int .i64 0, .string ⟨#[]⟩, .string a, .slice bo r.length cap', .string ⟨#[]⟩]) HN.out rfl ?_ ?_
  ·exact z_aw _ (Nat.le_refl _) HB3.out
  ·refine ⟨bo, cap', rfl, hcp, ?_⟩
   rw [z_bu]
   exact (HV.out.set5 _ (.inl (by omega))).mono (by omega) (Nat.le_refl _)
theorem z_hz (g off : Nat) (a : ByteArray) (w : World) (hs : ∀ s ∈ [a], s.size ≤ 2199023255552) (hi : StrsAt 0 w.heap.size w (some ⟨g, off, none⟩) ([a]))
  (ha : allB z_ac ([a]) = true) :
  Calls Tryz.prog 181 #[.slice (some ⟨g, off, none⟩) 1 1] w fun e w' => ReadEnd (pHead ([a])) 0 w e w' := by
 obtain ⟨_, _, e0, hB, hc0⟩ := hi.at 0 (by simp)
 cases e0
 obtain ⟨_, hBw⟩ := hB
 have c0 : w.cell? ⟨g, off, none⟩ = some (.string a) := hc0
 have HI : Hid (StrsAt 0 w.heap.size w (some ⟨g, off, none⟩) ([a])) := hi
 have HS : Hid (∀ s ∈ [a], s.size ≤ 2199023255552) := hs
 clear hc0 hi hs
 have HN : Hid (pHead ([a]) = some ⟨eS, a, [], eS⟩) := by
  simp only [Hid, pHead]; rw [if_pos ⟨by simp, ha, rfl⟩]
 go_enter Tryz.func181, Tryz.ntmps181
 go_wp2_with fail
 refine (z_ak (some ⟨g, off, none⟩) 1 [a] w.heap.size _ (by simp) (by simp) (fun s h => by have := HS.out s h; omega) (HI.out.below ((Below.refl _ _).alloc (Nat.le_refl _) _))).mono ?_
 rintro e w1 ⟨rfl, hb1⟩
 rw [ha]
 obtain ⟨⟨x0, x1, x2, x3, x4⟩, hf, hlt⟩ := box5 hb1
 have HB : Below w.heap.size w w1 := ((Below.refl _ _).alloc (Nat.le_refl _) _).trans (hb1.mono (by simp))
 rw [← HB.cell (p := ⟨g, off, none⟩) hBw] at c0
 have HB1 : Hid (Below w.heap.size w w1) := HB
 have hg1 : g < w1.heap.size := by omega
 clear hb1 HB
 have HT : Hid (StrsAt 0 w1.heap.size w1 (some ⟨g, off, none⟩) []) := StrsAt.nil _ _ _ _
 go_wp2_with fail
 refine (z_dy (some ⟨g, off, none⟩) 0 [] _ (by simp) (by simp) HT.out).mono ?_
 rintro e w' ⟨rfl, rfl⟩
 rw [show z_cB [] [].length = false from rfl]
 go_wp2_with fail
 have hgne : g ≠ w.heap.size := by omega
 go_region_held3 (fun wx => wx.cell? ⟨g, off, none⟩ = some (.string a))
  (first | (go_keep; done) | (rw [z_ny _ (by omega)]; assumption))
  (first
   | (go_at_call 88; refine (z_bc (some ⟨g, off, none⟩) 0 [] _ (by simp) (HT.out.later (Below.refl _ _).drew)).mono ?_; rintro e w3 ⟨v, rfl, hb3, bo, cap', rfl, hcp, hv⟩; have H3 : Below w'.heap.size w' w3 := (Below.refl _ _).drew.trans hb3; have HV : Hid (StrsAt w'.heap.size w3.heap.size w3 bo []) := hv; have HB3 : Hid (Below w.heap.size w w3) := HB1.out.trans (H3.mono (by omega)); obtain ⟨hq, hfq⟩ := z_ch H3; have c3 := (hq g off hg1).trans c0; have y0 := (hq _ 0 hlt).trans x0; have y1 := (hq _ 1 hlt).trans x1; have y2 := (hq _ 2 hlt).trans x2; have y3 := (hq _ 3 hlt).trans x3; have y4 := (hq _ 4 hlt).trans x4; have hf3 : ∀ o, w3.frozen? ⟨w.heap.size, o, none⟩ = false := (fun o => (hfq _ o hlt).trans (hf o)); clear hb3 hv H3 hq hfq))
 all_goals
  go_wp2
  refine bodyPost_ret (v := .tuple #[.agg #[.int .i64 0, .string ⟨#[]⟩, .string a, .slice bo 0 cap', .string ⟨#[]⟩], .bool true]) (by simp [results, Tryz.results181, go_sem, y0, y1, y2, y3, y4]) rfl ?_
  refine ReadEnd.yes (v := .agg #[.int .i64 0, .string ⟨#[]⟩, .string a, .slice bo 0 cap', .string ⟨#[]⟩]) HN.out rfl ?_ ?_
  ·exact z_aw _ (Nat.le_refl _) HB3.out
  ·refine ⟨bo, cap', rfl, hcp, ?_⟩
   rw [z_bu]
   exact (HV.out.set5 _ (.inl (by omega))).mono (by omega) (Nat.le_refl _)
theorem z_hQ (ao : Option Addr) (cap : Nat) (ws : List ByteArray) (w : World) (hcap : ws.length ≤ cap) (hl : ws.length ≤ 4398046511104) (hs : ∀ s ∈ ws, s.size ≤ 2199023255552) (hi : StrsAt 0 w.heap.size w ao ws) :
  Calls Tryz.prog 181 #[.slice ao ws.length cap] w fun e w' => ReadEnd (pHead ws) 0 w e w' := by
 match ws, hcap, hl, hs, hi with
 | [], _, _, _, _ =>
  go_enter Tryz.func181, Tryz.ntmps181
  go_wp2
  refine bodyPost_ret (v := .tuple #[.agg #[.int .i64 0, .string ⟨#[]⟩, .string ⟨#[]⟩, .slice none 0 0, .string ⟨#[]⟩], .bool false]) (by simp [results, Tryz.results181, go_sem]) rfl ?_
  exact ReadEnd.no rfl rfl ((Below.refl _ _).alloc (Nat.le_refl _) _)
 | a :: r, hcap, hl, hs, hi =>
  obtain ⟨g, off, rfl, _, _⟩ := hi.at 0 (by simp)
  simp only [List.length_cons] at hl hcap ⊢
  by_cases h3 : r.length ≤ 3
  ·cases ha : allB z_ac (a :: r) with
   | false => exact z_fo g off cap a r w (by omega) hs hi h3 ha
   | true =>
    by_cases hc1 : 1 < cap
    ·cases hr : z_cB r r.length with
     | true => exact z_iG g off cap a r w hcap hc1 (by omega) hs hi h3 ha hr
     | false => exact z_ii g off cap a r w hcap hc1 (by omega) hs hi h3 ha hr
    ·have e1 : cap = 1 := by omega
     have e2 : r = [] := List.length_eq_zero_iff.1 (by omega)
     subst e1 e2
     exact z_hz g off a w hs hi ha
  ·exact z_gv g off cap a r w (by omega) hs hi (by omega)
end
end Go.Proofs.YtlbjjbolbopfmaaGreatDoor
