import Derived.Test.YtlbjjbolbopfmaaGreatDoorJ11
namespace Go.Proofs.YtlbjjbolbopfmaaGreatDoor
set_option maxHeartbeats 1000000
set_option linter.unusedVariables false
open Go.RowKit
structure Boxes (g : Nat) (w : World) (u : ByteArray) : Prop where
 x0 : w.cell? ⟨g, 0, none⟩ = some (.int .i64 0)
 x1 : w.cell? ⟨g, 1, none⟩ = some (.string ⟨#[]⟩)
 x2 : w.cell? ⟨g, 2, none⟩ = some (.string ⟨#[]⟩)
 x3 : w.cell? ⟨g, 3, none⟩ = some (.slice none 0 0)
 x4 : w.cell? ⟨g, 4, none⟩ = some (.string ⟨#[]⟩)
 y0 : w.cell? ⟨g + 1, 0, none⟩ = some (.int .i64 0)
 y1 : w.cell? ⟨g + 1, 1, none⟩ = some (.string ⟨#[]⟩)
 y2 : w.cell? ⟨g + 1, 2, none⟩ = some (.string ⟨#[]⟩)
 y3 : w.cell? ⟨g + 1, 3, none⟩ = some (.slice none 0 0)
 y4 : w.cell? ⟨g + 1, 4, none⟩ = some (.string u)
 fx : ∀ o, w.frozen? ⟨g, o, none⟩ = false
 fy : ∀ o, w.frozen? ⟨g + 1, o, none⟩ = false
 lt : g + 1 < w.heap.size
theorem Boxes.later {g : Nat} {w w' : World} {u : ByteArray} (h : Boxes g w u) (hb : Below w.heap.size w w') : Boxes g w' u := by
 obtain ⟨hc, hf⟩ := z_ch hb
 have h1 := h.lt
 have h0 : g < w.heap.size := by omega
 exact ⟨(hc _ _ h0).trans h.x0, (hc _ _ h0).trans h.x1, (hc _ _ h0).trans h.x2, (hc _ _ h0).trans h.x3, (hc _ _ h0).trans h.x4, (hc _ _ h1).trans h.y0, (hc _ _ h1).trans h.y1, (hc _ _ h1).trans h.y2, (hc _ _ h1).trans h.y3, (hc _ _ h1).trans h.y4, fun o => (hf _ o h0).trans (h.fx o), fun o => (hf _ o h1).trans (h.fy o), by have := hb.size; omega⟩
theorem z_bi (w : World) (t : TypeId) : Boxes w.heap.size ((w.alloc (.cells #[.int .i64 0, .string ⟨#[]⟩, .string ⟨#[]⟩, .slice none 0 0, .string ⟨#[]⟩] t)).alloc (.cells #[.int .i64 0, .string ⟨#[]⟩, .string ⟨#[]⟩, .slice none 0 0, .string ⟨#[]⟩] t)) ⟨#[]⟩ := by
 constructor <;> simp [go_sem]
theorem z_d6 {g : Nat} {w : World} {u x : ByteArray} (h : Boxes g w u) : Boxes g (w.setCell ⟨g + 1, 4, none⟩ (.string x)) x := by
 have hne : g ≠ (⟨g + 1, 4, none⟩ : Addr).block := by simp
 have hs : (w.setCell ⟨g + 1, 4, none⟩ (.string x)).heap.size = w.heap.size := by simp [World.setCell]
 refine ⟨(z_aD _ _ _ _ hne).trans h.x0, (z_aD _ _ _ _ hne).trans h.x1, (z_aD _ _ _ _ hne).trans h.x2, (z_aD _ _ _ _ hne).trans h.x3, (z_aD _ _ _ _ hne).trans h.x4, ?_, ?_, ?_, ?_, ?_, fun o => ?_, fun o => ?_, by rw [hs]; exact h.lt⟩
 ·simp [go_sem, h.y0]
 ·simp [go_sem, h.y1]
 ·simp [go_sem, h.y2]
 ·simp [go_sem, h.y3]
 ·simp [go_sem, h.y4]
 ·simp [go_sem, h.fx]
 ·simp [go_sem, h.fy]
theorem z_bU (a b u x : ByteArray) (r : List ByteArray) (hu : (u.toList == [117, 110, 100, 111]) = true) : pDo (a :: b :: (r ++ [u, x])) = if z_ac x = true then pDo0 (a :: b :: r) x else none := by
 have e1 : (a :: b :: (r ++ [u, x])).length = r.length + 4 := by simp
 have e2 : (a :: b :: (r ++ [u, x])).getD (r.length + 2) eS = u := by simp [List.getD]
 have e3 : (a :: b :: (r ++ [u, x])).getD (r.length + 3) eS = x := by simp [List.getD]
 have e4 : (a :: b :: (r ++ [u, x])).take (r.length + 2) = a :: b :: r := by simp
 have hi : z_aJ (a :: b :: (r ++ [u, x])) = true := by
  simp only [z_aJ, e1, show r.length + 4 - 2 = r.length + 2 by omega, e2, hu, Bool.and_true, decide_eq_true_eq]; omega
 rw [pDo, if_pos hi, e1, show r.length + 4 - 1 = r.length + 3 by omega, show r.length + 4 - 2 = r.length + 2 by omega, e3, e4]
theorem z_mj (g off : Nat) (cap : Nat) (a b u x : ByteArray) (r : List ByteArray) (w : World) (hl : r.length ≤ 4398046511000) (hs : ∀ s ∈ a :: b :: (r ++ [u, x]), s.size ≤ 2199023255552) (hi : StrsAt 0 w.heap.size w (some ⟨g, off, none⟩) (a :: b :: (r ++ [u, x]))) (he : Env w)
  (hu : (u.toList == [117, 110, 100, 111]) = true) (hx : z_ac x = false) :
  Calls Tryz.prog 183 #[.slice (some ⟨g, off, none⟩) (r.length + 4) cap] w fun e w' => ReadEnd (pDo (a :: b :: (r ++ [u, x]))) 0 w e w' := by
 obtain ⟨_, _, e0, hB, hc0⟩ := hi.at 0 (by simp)
 cases e0
 obtain ⟨_, _, e1, _, hc1⟩ := hi.at 1 (by simp)
 cases e1
 obtain ⟨_, hBw⟩ := hB
 have c0 : w.cell? ⟨g, off, none⟩ = some (.string a) := hc0
 have c1 : w.cell? ⟨g, off + 1, none⟩ = some (.string b) := hc1
 have cu : w.cell? ⟨g, off + (r.length + 2), none⟩ = some (.string u) := by
  obtain ⟨_, _, e1, _, hc1⟩ := hi.at (r.length + 2) (by simp)
  cases e1
  simpa using hc1
 have cx : w.cell? ⟨g, off + (r.length + 3), none⟩ = some (.string x) := by
  obtain ⟨_, _, e1, _, hc1⟩ := hi.at (r.length + 3) (by simp)
  cases e1
  simpa using hc1
 have HV0 : Hid (StrsAt 0 w.heap.size w (some ⟨g, off, none⟩) (a :: b :: r)) := by
  have := hi.take (r.length + 2)
  rwa [show (a :: b :: (r ++ [u, x])).take (r.length + 2) = a :: b :: r by simp] at this
 have HS : Hid (∀ s ∈ a :: b :: r, s.size ≤ 2199023255552) := fun s h => hs s (by simp at h ⊢; rcases h with h | h | h <;> simp [h])
 have hsx : x.size ≤ 2199023255552 := hs x (by simp)
 have HE : Hid (Env w) := he
 have D0 : Hid (w.cell? ⟨g, off, none⟩ = some (.string a)) := hc0
 have D1 : Hid (w.cell? ⟨g, off + 1, none⟩ = some (.string b)) := hc1
 clear hc0 hc1 hi hs he
 go_enter Tryz.func183, Tryz.ntmps183
 go_wp2_with fail
 refine (z_aP _ _ (by omega)).mono ?_
 rintro e w1 ⟨rfl, hb1⟩
 rw [hx]
 have HBX : Hid (Boxes w.heap.size w1 ⟨#[]⟩) := (z_bi w _).later hb1
 have HB : Below w.heap.size w w1 := (((Below.refl _ _).alloc (Nat.le_refl _) _).alloc (by simp) _).trans (hb1.mono (by simp; omega))
 rw [← HB.cell (p := ⟨g, off, none⟩) hBw] at c0
 rw [← HB.cell (p := ⟨g, off + 1, none⟩) hBw] at c1
 rw [← HB.cell (p := ⟨g, off + (r.length + 2), none⟩) hBw] at cu
 rw [← HB.cell (p := ⟨g, off + (r.length + 3), none⟩) hBw] at cx
 have HB1 : Hid (Below w.heap.size w w1) := HB
 clear hb1 HB
 have HN : Hid (pDo (a :: b :: (r ++ [u, x])) = none) := by rw [Hid, z_bU _ _ _ _ _ hu, hx]; rfl
 obtain ⟨x0, x1, x2, x3, x4, y0, y1, y2, y3, y4, fx, fy, hlt⟩ := HBX.out
 go_wp2
 refine bodyPost_ret (v := .tuple #[.agg #[.int .i64 0, .string ⟨#[]⟩, .string ⟨#[]⟩, .slice none 0 0, .string ⟨#[]⟩], .bool false]) (by simp [results, Tryz.results183, go_sem, x0, x1, x2, x3, x4]) rfl ?_
 exact ReadEnd.no HN.out rfl (z_aw _ (Nat.le_refl _) HB1.out)
theorem z_fc (g off : Nat) (cap : Nat) (a b u x : ByteArray) (r : List ByteArray) (w : World) (hcap : r.length + 4 ≤ cap) (hl : r.length ≤ 4398046511000) (hs : ∀ s ∈ a :: b :: (r ++ [u, x]), s.size ≤ 2199023255552) (hi : StrsAt 0 w.heap.size w (some ⟨g, off, none⟩) (a :: b :: (r ++ [u, x]))) (he : Env w)
  (hu : (u.toList == [117, 110, 100, 111]) = true) (hx : z_ac x = true) (h3 : r.length ≤ 3) (hn : allB z_ac [a, b] = false) :
  Calls Tryz.prog 183 #[.slice (some ⟨g, off, none⟩) (r.length + 4) cap] w fun e w' => ReadEnd (pDo (a :: b :: (r ++ [u, x]))) 0 w e w' := by
 obtain ⟨_, _, e0, hB, hc0⟩ := hi.at 0 (by simp)
 cases e0
 obtain ⟨_, _, e1, _, hc1⟩ := hi.at 1 (by simp)
 cases e1
 obtain ⟨_, hBw⟩ := hB
 have c0 : w.cell? ⟨g, off, none⟩ = some (.string a) := hc0
 have c1 : w.cell? ⟨g, off + 1, none⟩ = some (.string b) := hc1
 have cu : w.cell? ⟨g, off + (r.length + 2), none⟩ = some (.string u) := by
  obtain ⟨_, _, e1, _, hc1⟩ := hi.at (r.length + 2) (by simp)
  cases e1
  simpa using hc1
 have cx : w.cell? ⟨g, off + (r.length + 3), none⟩ = some (.string x) := by
  obtain ⟨_, _, e1, _, hc1⟩ := hi.at (r.length + 3) (by simp)
  cases e1
  simpa using hc1
 have HV0 : Hid (StrsAt 0 w.heap.size w (some ⟨g, off, none⟩) (a :: b :: r)) := by
  have := hi.take (r.length + 2)
  rwa [show (a :: b :: (r ++ [u, x])).take (r.length + 2) = a :: b :: r by simp] at this
 have HS : Hid (∀ s ∈ a :: b :: r, s.size ≤ 2199023255552) := fun s h => hs s (by simp at h ⊢; rcases h with h | h | h <;> simp [h])
 have hsx : x.size ≤ 2199023255552 := hs x (by simp)
 have HE : Hid (Env w) := he
 have D0 : Hid (w.cell? ⟨g, off, none⟩ = some (.string a)) := hc0
 have D1 : Hid (w.cell? ⟨g, off + 1, none⟩ = some (.string b)) := hc1
 clear hc0 hc1 hi hs he
 go_enter Tryz.func183, Tryz.ntmps183
 go_wp2_with fail
 refine (z_aP _ _ (by omega)).mono ?_
 rintro e w1 ⟨rfl, hb1⟩
 rw [hx]
 have HBX : Hid (Boxes w.heap.size w1 ⟨#[]⟩) := (z_bi w _).later hb1
 have HB : Below w.heap.size w w1 := (((Below.refl _ _).alloc (Nat.le_refl _) _).alloc (by simp) _).trans (hb1.mono (by simp; omega))
 rw [← HB.cell (p := ⟨g, off, none⟩) hBw] at c0
 rw [← HB.cell (p := ⟨g, off + 1, none⟩) hBw] at c1
 rw [← HB.cell (p := ⟨g, off + (r.length + 2), none⟩) hBw] at cu
 rw [← HB.cell (p := ⟨g, off + (r.length + 3), none⟩) hBw] at cx
 have HB1 : Hid (Below w.heap.size w w1) := HB
 clear hb1 HB
 have HN : Hid (pDo (a :: b :: (r ++ [u, x])) = none) := by
  have : ¬ (z_ac a = true ∧ z_ac b = true) := by simpa [allB] using hn
  rw [Hid, z_bU _ _ _ _ _ hu, hx, if_pos rfl]
  simp only [pDo0]; rw [if_neg (fun h => this ⟨h.1, h.2.1⟩)]
 obtain ⟨x0, x1, x2, x3, x4, y0, y1, y2, y3, y4, fx, fy, hlt⟩ := HBX.out
 go_wp2_with fail
 refine (z_ak (some ⟨g, off, none⟩) cap [a, b] w.heap.size _ (by have := HB1.out.size; simpa [World.setCell] using this) (by simp) (fun s h => by have := HS.out s (by simp at h ⊢; rcases h with h | h <;> simp [h]); omega) ((HV0.out.take 2).below (HB1.out.setCell (by simp) _))).mono ?_
 rintro e w2 ⟨rfl, hb2⟩
 rw [hn]
 have HBX2 : Hid (Boxes w.heap.size w2 x) := (z_d6 (x := x) HBX.out).later hb2
 have H2 : Below w.heap.size w w2 := (HB1.out.setCell (by simp) _).trans (hb2.mono (by have := HB1.out.size; simpa [World.setCell] using this))
 clear c0 c1
 have c0 : w2.cell? ⟨g, off, none⟩ = some (.string a) := (H2.cell (p := ⟨g, off, none⟩) hBw).trans D0.out
 have c1 : w2.cell? ⟨g, off + 1, none⟩ = some (.string b) := (H2.cell (p := ⟨g, off + 1, none⟩) hBw).trans D1.out
 have HB2 : Hid (Below w.heap.size w w2) := H2
 clear hb2 H2 x0 x1 x2 x3 x4 y0 y1 y2 y3 y4 fx fy hlt
 obtain ⟨x0, x1, x2, x3, x4, y0, y1, y2, y3, y4, fx, fy, hlt⟩ := HBX2.out
 go_wp2
 refine bodyPost_ret (v := .tuple #[.agg #[.int .i64 0, .string ⟨#[]⟩, .string ⟨#[]⟩, .slice none 0 0, .string ⟨#[]⟩], .bool false]) (by simp [results, Tryz.results183, go_sem, x0, x1, x2, x3, x4]) rfl ?_
 exact ReadEnd.no HN.out rfl (z_aw _ (Nat.le_refl _) HB2.out)
theorem z_fX (g off : Nat) (cap : Nat) (a b u x : ByteArray) (r : List ByteArray) (w : World) (hcap : r.length + 4 ≤ cap) (hl : r.length ≤ 4398046511000) (hs : ∀ s ∈ a :: b :: (r ++ [u, x]), s.size ≤ 2199023255552) (hi : StrsAt 0 w.heap.size w (some ⟨g, off, none⟩) (a :: b :: (r ++ [u, x]))) (he : Env w)
  (hu : (u.toList == [117, 110, 100, 111]) = true) (hx : z_ac x = true) (h3 : r.length ≤ 3) (hn : allB z_ac [a, b] = true) (hr : allB z_an r = false) :
  Calls Tryz.prog 183 #[.slice (some ⟨g, off, none⟩) (r.length + 4) cap] w fun e w' => ReadEnd (pDo (a :: b :: (r ++ [u, x]))) 0 w e w' := by
 obtain ⟨_, _, e0, hB, hc0⟩ := hi.at 0 (by simp)
 cases e0
 obtain ⟨_, _, e1, _, hc1⟩ := hi.at 1 (by simp)
 cases e1
 obtain ⟨_, hBw⟩ := hB
 have c0 : w.cell? ⟨g, off, none⟩ = some (.string a) := hc0
 have c1 : w.cell? ⟨g, off + 1, none⟩ = some (.string b) := hc1
 have cu : w.cell? ⟨g, off + (r.length + 2), none⟩ = some (.string u) := by
  obtain ⟨_, _, e1, _, hc1⟩ := hi.at (r.length + 2) (by simp)
  cases e1
  simpa using hc1
 have cx : w.cell? ⟨g, off + (r.length + 3), none⟩ = some (.string x) := by
  obtain ⟨_, _, e1, _, hc1⟩ := hi.at (r.length + 3) (by simp)
  cases e1
  simpa using hc1
 have HV0 : Hid (StrsAt 0 w.heap.size w (some ⟨g, off, none⟩) (a :: b :: r)) := by
  have := hi.take (r.length + 2)
  rwa [show (a :: b :: (r ++ [u, x])).take (r.length + 2) = a :: b :: r by simp] at this
 have HS : Hid (∀ s ∈ a :: b :: r, s.size ≤ 2199023255552) := fun s h => hs s (by simp at h ⊢; rcases h with h | h | h <;> simp [h])
 have hsx : x.size ≤ 2199023255552 := hs x (by simp)
 have HE : Hid (Env w) := he
 have D0 : Hid (w.cell? ⟨g, off, none⟩ = some (.string a)) := hc0
 have D1 : Hid (w.cell? ⟨g, off + 1, none⟩ = some (.string b)) := hc1
 clear hc0 hc1 hi hs he
 go_enter Tryz.func183, Tryz.ntmps183
 go_wp2_with fail
 refine (z_aP _ _ (by omega)).mono ?_
 rintro e w1 ⟨rfl, hb1⟩
 rw [hx]
 have HBX : Hid (Boxes w.heap.size w1 ⟨#[]⟩) := (z_bi w _).later hb1
 have HB : Below w.heap.size w w1 := (((Below.refl _ _).alloc (Nat.le_refl _) _).alloc (by simp) _).trans (hb1.mono (by simp; omega))
 rw [← HB.cell (p := ⟨g, off, none⟩) hBw] at c0
 rw [← HB.cell (p := ⟨g, off + 1, none⟩) hBw] at c1
 rw [← HB.cell (p := ⟨g, off + (r.length + 2), none⟩) hBw] at cu
 rw [← HB.cell (p := ⟨g, off + (r.length + 3), none⟩) hBw] at cx
 have HB1 : Hid (Below w.heap.size w w1) := HB
 clear hb1 HB
 have HN : Hid (pDo (a :: b :: (r ++ [u, x])) = none) := by
  rw [Hid, z_bU _ _ _ _ _ hu, hx, if_pos rfl]
  simp only [pDo0]; rw [if_neg (fun h => by rw [hr] at h; cases h.2.2.2)]
 obtain ⟨x0, x1, x2, x3, x4, y0, y1, y2, y3, y4, fx, fy, hlt⟩ := HBX.out
 go_wp2_with fail
 refine (z_ak (some ⟨g, off, none⟩) cap [a, b] w.heap.size _ (by have := HB1.out.size; simpa [World.setCell] using this) (by simp) (fun s h => by have := HS.out s (by simp at h ⊢; rcases h with h | h <;> simp [h]); omega) ((HV0.out.take 2).below (HB1.out.setCell (by simp) _))).mono ?_
 rintro e w2 ⟨rfl, hb2⟩
 rw [hn]
 have HBX2 : Hid (Boxes w.heap.size w2 x) := (z_d6 (x := x) HBX.out).later hb2
 have H2 : Below w.heap.size w w2 := (HB1.out.setCell (by simp) _).trans (hb2.mono (by have := HB1.out.size; simpa [World.setCell] using this))
 clear c0 c1
 have c0 : w2.cell? ⟨g, off, none⟩ = some (.string a) := (H2.cell (p := ⟨g, off, none⟩) hBw).trans D0.out
 have c1 : w2.cell? ⟨g, off + 1, none⟩ = some (.string b) := (H2.cell (p := ⟨g, off + 1, none⟩) hBw).trans D1.out
 have HB2 : Hid (Below w.heap.size w w2) := H2
 clear hb2 H2 x0 x1 x2 x3 x4 y0 y1 y2 y3 y4 fx fy hlt
 obtain ⟨x0, x1, x2, x3, x4, y0, y1, y2, y3, y4, fx, fy, hlt⟩ := HBX2.out
 have HT : Hid (StrsAt 0 w.heap.size w (some ⟨g, off + 2, none⟩) r) := HV0.out.drop 2
 go_wp2_with fail
 refine (z_ar (some ⟨g, off + 2, none⟩) (cap - 2) r w.heap.size _ HB2.out.size (by omega) (fun s h => HS.out s (by simp [h])) (HE.out.later HB2.out) (HT.out.below HB2.out)).mono ?_
 rintro e w3 ⟨rfl, hb3⟩
 rw [hr]
 have HBX3 : Hid (Boxes w.heap.size w3 x) := HBX2.out.later hb3
 have H3 : Below w.heap.size w w3 := HB2.out.trans (hb3.mono HB2.out.size)
 have hBw2 : g < w2.heap.size := by have := HB2.out.size; omega
 have hq3 := (z_ch hb3).1
 rw [← hq3 _ _ hBw2] at c0 c1
 have HB3 : Hid (Below w.heap.size w w3) := H3
 clear hb3 H3 hq3 x0 x1 x2 x3 x4 y0 y1 y2 y3 y4 fx fy hlt
 obtain ⟨x0, x1, x2, x3, x4, y0, y1, y2, y3, y4, fx, fy, hlt⟩ := HBX3.out
 go_wp2
 refine bodyPost_ret (v := .tuple #[.agg #[.int .i64 0, .string ⟨#[]⟩, .string ⟨#[]⟩, .slice none 0 0, .string ⟨#[]⟩], .bool false]) (by simp [results, Tryz.results183, go_sem, x0, x1, x2, x3, x4]) rfl ?_
 exact ReadEnd.no HN.out rfl (z_aw _ (Nat.le_refl _) HB3.out)
theorem z_iu (g off : Nat) (cap : Nat) (a b u x : ByteArray) (r : List ByteArray) (w : World) (hcap : r.length + 4 ≤ cap) (hl : r.length ≤ 4398046511000) (hs : ∀ s ∈ a :: b :: (r ++ [u, x]), s.size ≤ 2199023255552) (hi : StrsAt 0 w.heap.size w (some ⟨g, off, none⟩) (a :: b :: (r ++ [u, x]))) (he : Env w)
  (hu : (u.toList == [117, 110, 100, 111]) = true) (hx : z_ac x = true) (h3 : r.length ≤ 3) (hn : allB z_ac [a, b] = true) (hr : allB z_an r = true) :
  Calls Tryz.prog 183 #[.slice (some ⟨g, off, none⟩) (r.length + 4) cap] w fun e w' => ReadEnd (pDo (a :: b :: (r ++ [u, x]))) 0 w e w' := by
 obtain ⟨_, _, e0, hB, hc0⟩ := hi.at 0 (by simp)
 cases e0
 obtain ⟨_, _, e1, _, hc1⟩ := hi.at 1 (by simp)
 cases e1
 obtain ⟨_, hBw⟩ := hB
 have c0 : w.cell? ⟨g, off, none⟩ = some (.string a) := hc0
 have c1 : w.cell? ⟨g, off + 1, none⟩ = some (.string b) := hc1
 have cu : w.cell? ⟨g, off + (r.length + 2), none⟩ = some (.string u) := by
  obtain ⟨_, _, e1, _, hc1⟩ := hi.at (r.length + 2) (by simp)
  cases e1
  simpa using hc1
 have cx : w.cell? ⟨g, off + (r.length + 3), none⟩ = some (.string x) := by
  obtain ⟨_, _, e1, _, hc1⟩ := hi.at (r.length + 3) (by simp)
  cases e1
  simpa using hc1
 have HV0 : Hid (StrsAt 0 w.heap.size w (some ⟨g, off, none⟩) (a :: b :: r)) := by
  have := hi.take (r.length + 2)
  rwa [show (a :: b :: (r ++ [u, x])).take (r.length + 2) = a :: b :: r by simp] at this
 have HS : Hid (∀ s ∈ a :: b :: r, s.size ≤ 2199023255552) := fun s h => hs s (by simp at h ⊢; rcases h with h | h | h <;> simp [h])
 have hsx : x.size ≤ 2199023255552 := hs x (by simp)
 have HE : Hid (Env w) := he
 have D0 : Hid (w.cell? ⟨g, off, none⟩ = some (.string a)) := hc0
 have D1 : Hid (w.cell? ⟨g, off + 1, none⟩ = some (.string b)) := hc1
 clear hc0 hc1 hi hs he
 go_enter Tryz.func183, Tryz.ntmps183
 go_wp2_with fail
 refine (z_aP _ _ (by omega)).mono ?_
 rintro e w1 ⟨rfl, hb1⟩
 rw [hx]
 have HBX : Hid (Boxes w.heap.size w1 ⟨#[]⟩) := (z_bi w _).later hb1
 have HB : Below w.heap.size w w1 := (((Below.refl _ _).alloc (Nat.le_refl _) _).alloc (by simp) _).trans (hb1.mono (by simp; omega))
 rw [← HB.cell (p := ⟨g, off, none⟩) hBw] at c0
 rw [← HB.cell (p := ⟨g, off + 1, none⟩) hBw] at c1
 rw [← HB.cell (p := ⟨g, off + (r.length + 2), none⟩) hBw] at cu
 rw [← HB.cell (p := ⟨g, off + (r.length + 3), none⟩) hBw] at cx
 have HB1 : Hid (Below w.heap.size w w1) := HB
 clear hb1 HB
 have HN : Hid (pDo (a :: b :: (r ++ [u, x])) = some ⟨a, b, r, x⟩) := by
  have : z_ac a = true ∧ z_ac b = true := by simpa [allB] using hn
  rw [Hid, z_bU _ _ _ _ _ hu, hx, if_pos rfl]
  simp only [pDo0]; rw [if_pos ⟨this.1, this.2, h3, hr⟩]
 obtain ⟨x0, x1, x2, x3, x4, y0, y1, y2, y3, y4, fx, fy, hlt⟩ := HBX.out
 go_wp2_with fail
 refine (z_ak (some ⟨g, off, none⟩) cap [a, b] w.heap.size _ (by have := HB1.out.size; simpa [World.setCell] using this) (by simp) (fun s h => by have := HS.out s (by simp at h ⊢; rcases h with h | h <;> simp [h]); omega) ((HV0.out.take 2).below (HB1.out.setCell (by simp) _))).mono ?_
 rintro e w2 ⟨rfl, hb2⟩
 rw [hn]
 have HBX2 : Hid (Boxes w.heap.size w2 x) := (z_d6 (x := x) HBX.out).later hb2
 have H2 : Below w.heap.size w w2 := (HB1.out.setCell (by simp) _).trans (hb2.mono (by have := HB1.out.size; simpa [World.setCell] using this))
 clear c0 c1
 have c0 : w2.cell? ⟨g, off, none⟩ = some (.string a) := (H2.cell (p := ⟨g, off, none⟩) hBw).trans D0.out
 have c1 : w2.cell? ⟨g, off + 1, none⟩ = some (.string b) := (H2.cell (p := ⟨g, off + 1, none⟩) hBw).trans D1.out
 have HB2 : Hid (Below w.heap.size w w2) := H2
 clear hb2 H2 x0 x1 x2 x3 x4 y0 y1 y2 y3 y4 fx fy hlt
 obtain ⟨x0, x1, x2, x3, x4, y0, y1, y2, y3, y4, fx, fy, hlt⟩ := HBX2.out
 have HT : Hid (StrsAt 0 w.heap.size w (some ⟨g, off + 2, none⟩) r) := HV0.out.drop 2
 go_wp2_with fail
 refine (z_ar (some ⟨g, off + 2, none⟩) (cap - 2) r w.heap.size _ HB2.out.size (by omega) (fun s h => HS.out s (by simp [h])) (HE.out.later HB2.out) (HT.out.below HB2.out)).mono ?_
 rintro e w3 ⟨rfl, hb3⟩
 rw [hr]
 have HBX3 : Hid (Boxes w.heap.size w3 x) := HBX2.out.later hb3
 have H3 : Below w.heap.size w w3 := HB2.out.trans (hb3.mono HB2.out.size)
 have hBw2 : g < w2.heap.size := by have := HB2.out.size; omega
 have hq3 := (z_ch hb3).1
 rw [← hq3 _ _ hBw2] at c0 c1
 have HB3 : Hid (Below w.heap.size w w3) := H3
 clear hb3 H3 hq3 x0 x1 x2 x3 x4 y0 y1 y2 y3 y4 fx fy hlt
 obtain ⟨x0, x1, x2, x3, x4, y0, y1, y2, y3, y4, fx, fy, hlt⟩ := HBX3.out
 have hBw3 : g < w3.heap.size := by have := HB3.out.size; omega
 have hgne : g ≠ w.heap.size + 1 := by omega
 skip
 have hltx : w.heap.size < w3.heap.size := by omega
 have hi0 : (0 : Int) < (r.length : Int) + 2 := by omega
 have hi1 : (1 : Int) < (r.length : Int) + 2 := by omega
 go_wp2_with fail
 go_region_held3 (fun wx => wx.cell? ⟨g, off, none⟩ = some (.string a) ∧ wx.cell? ⟨g, off + 1, none⟩ = some (.string b))
  (first | (go_keep; done) | (refine ⟨?_, ?_⟩ <;> (repeat rw [z_aD _ _ _ _ hgne]) <;> assumption))
  (first
   | (go_at_call 88; refine (z_bc (some ⟨g, off + 2, none⟩) (cap - 2) r _ (by omega) ((HT.out.later HB3.out).later (Below.refl _ _).drew)).mono ?_; rintro e w4 ⟨v, rfl, hb4, bo, cap', rfl, hcp, hv⟩; have H4 : Below w3.heap.size w3 w4 := (Below.refl _ _).drew.trans hb4; have HV : Hid (StrsAt w3.heap.size w4.heap.size w4 bo r) := hv; have HB4 : Hid (Below w.heap.size w w4) := HB3.out.trans (H4.mono (by omega)); have HBX4 : Boxes w.heap.size w4 x := HBX3.out.later H4; obtain ⟨u0, u1, u2, u3, u4, v0, v1, v2, v3, v4, fu, fv, hlt4⟩ := HBX4; obtain ⟨hq, hfq⟩ := z_ch H4; have d0 := (hq g off hBw3).trans c0; have d1 := (hq g (off + 1) hBw3).trans c1; have hlt5 : w3.heap.size ≤ w4.heap.size := H4.size; clear hb4 hv H4 hq hfq))
 all_goals
  go_wp2
  refine bodyPost_ret (v := .tuple #[.agg #[.int .i64 0, .string a, .string b, .slice bo r.length cap', .string x], .bool true]) (by simp [results, Tryz.results183, go_sem, u0, u1, u2, u3, u4]) rfl ?_
  refine ReadEnd.yes (v := .agg #[.int .i64 0, .string a, .string b, .slice bo r.length cap', .string x]) HN.out rfl ?_ ?_
  ·exact z_aw _ (Nat.le_refl _) (((HB4.out.setCell (by simp) _).setCell (by simp) _).setCell (by simp) _)
  ·refine ⟨bo, cap', rfl, hcp, ?_⟩
   have HW := ((HV.out.setCell (p := ⟨w.heap.size + 1, 1, none⟩) (.inl (by simp; omega)) (.string a)).setCell (p := ⟨w.heap.size + 1, 2, none⟩) (.inl (by simp; omega)) (.string b)).setCell (p := ⟨w.heap.size + 1, 3, none⟩) (.inl (by simp; omega)) (.slice bo r.length cap')
   rw [z_bu]
   refine StrsAt.mono (StrsAt.set5 _ HW (.inl (by omega))) (by omega) ?_
   simp [World.setCell]
theorem z_id (g off : Nat) (cap : Nat) (a b u x : ByteArray) (r : List ByteArray) (w : World) (hcap : r.length + 4 ≤ cap) (hl : r.length ≤ 4398046511000) (hs : ∀ s ∈ a :: b :: (r ++ [u, x]), s.size ≤ 2199023255552) (hi : StrsAt 0 w.heap.size w (some ⟨g, off, none⟩) (a :: b :: (r ++ [u, x]))) (he : Env w)
  (hu : (u.toList == [117, 110, 100, 111]) = true) (hx : z_ac x = true) (h3 : 3 < r.length) :
  Calls Tryz.prog 183 #[.slice (some ⟨g, off, none⟩) (r.length + 4) cap] w fun e w' => ReadEnd (pDo (a :: b :: (r ++ [u, x]))) 0 w e w' := by
 obtain ⟨_, _, e0, hB, hc0⟩ := hi.at 0 (by simp)
 cases e0
 obtain ⟨_, _, e1, _, hc1⟩ := hi.at 1 (by simp)
 cases e1
 obtain ⟨_, hBw⟩ := hB
 have c0 : w.cell? ⟨g, off, none⟩ = some (.string a) := hc0
 have c1 : w.cell? ⟨g, off + 1, none⟩ = some (.string b) := hc1
 have cu : w.cell? ⟨g, off + (r.length + 2), none⟩ = some (.string u) := by
  obtain ⟨_, _, e1, _, hc1⟩ := hi.at (r.length + 2) (by simp)
  cases e1
  simpa using hc1
 have cx : w.cell? ⟨g, off + (r.length + 3), none⟩ = some (.string x) := by
  obtain ⟨_, _, e1, _, hc1⟩ := hi.at (r.length + 3) (by simp)
  cases e1
  simpa using hc1
 have HV0 : Hid (StrsAt 0 w.heap.size w (some ⟨g, off, none⟩) (a :: b :: r)) := by
  have := hi.take (r.length + 2)
  rwa [show (a :: b :: (r ++ [u, x])).take (r.length + 2) = a :: b :: r by simp] at this
 have HS : Hid (∀ s ∈ a :: b :: r, s.size ≤ 2199023255552) := fun s h => hs s (by simp at h ⊢; rcases h with h | h | h <;> simp [h])
 have hsx : x.size ≤ 2199023255552 := hs x (by simp)
 have HE : Hid (Env w) := he
 have D0 : Hid (w.cell? ⟨g, off, none⟩ = some (.string a)) := hc0
 have D1 : Hid (w.cell? ⟨g, off + 1, none⟩ = some (.string b)) := hc1
 clear hc0 hc1 hi hs he
 go_enter Tryz.func183, Tryz.ntmps183
 go_wp2_with fail
 refine (z_aP _ _ (by omega)).mono ?_
 rintro e w1 ⟨rfl, hb1⟩
 rw [hx]
 have HBX : Hid (Boxes w.heap.size w1 ⟨#[]⟩) := (z_bi w _).later hb1
 have HB : Below w.heap.size w w1 := (((Below.refl _ _).alloc (Nat.le_refl _) _).alloc (by simp) _).trans (hb1.mono (by simp; omega))
 rw [← HB.cell (p := ⟨g, off, none⟩) hBw] at c0
 rw [← HB.cell (p := ⟨g, off + 1, none⟩) hBw] at c1
 rw [← HB.cell (p := ⟨g, off + (r.length + 2), none⟩) hBw] at cu
 rw [← HB.cell (p := ⟨g, off + (r.length + 3), none⟩) hBw] at cx
 have HB1 : Hid (Below w.heap.size w w1) := HB
 clear hb1 HB
 have HN : Hid (pDo (a :: b :: (r ++ [u, x])) = none) := by
  rw [Hid, z_bU _ _ _ _ _ hu, hx, if_pos rfl]
  simp only [pDo0]; rw [if_neg (fun h => by omega)]
 obtain ⟨x0, x1, x2, x3, x4, y0, y1, y2, y3, y4, fx, fy, hlt⟩ := HBX.out
 go_wp2
 refine bodyPost_ret (v := .tuple #[.agg #[.int .i64 0, .string ⟨#[]⟩, .string ⟨#[]⟩, .slice none 0 0, .string ⟨#[]⟩], .bool false]) (by simp [results, Tryz.results183, go_sem, x0, x1, x2, x3, x4]) rfl ?_
 exact ReadEnd.no HN.out rfl (z_aw _ (Nat.le_refl _) (HB1.out.setCell (by simp) _))
theorem z_eB (g off : Nat) (cap : Nat) (a b : ByteArray) (r : List ByteArray) (w : World) (hcap : r.length + 2 ≤ cap) (hl : r.length ≤ 4398046511000) (hs : ∀ s ∈ a :: b :: r, s.size ≤ 2199023255552) (hi : StrsAt 0 w.heap.size w (some ⟨g, off, none⟩) (a :: b :: r)) (he : Env w)
  (hnu : z_aJ (a :: b :: r) = false) (h1 : r.length ≤ 1) (hcap1 : 2 < cap) (h3 : r.length ≤ 3) (hn : allB z_ac [a, b] = false) :
  Calls Tryz.prog 183 #[.slice (some ⟨g, off, none⟩) (r.length + 2) cap] w fun e w' => ReadEnd (pDo (a :: b :: r)) 0 w e w' := by
 obtain ⟨_, _, e0, hB, hc0⟩ := hi.at 0 (by simp)
 cases e0
 obtain ⟨_, _, e1, _, hc1⟩ := hi.at 1 (by simp)
 cases e1
 obtain ⟨_, hBw⟩ := hB
 have c0 : w.cell? ⟨g, off, none⟩ = some (.string a) := hc0
 have c1 : w.cell? ⟨g, off + 1, none⟩ = some (.string b) := hc1
 have HV0 : Hid (StrsAt 0 w.heap.size w (some ⟨g, off, none⟩) (a :: b :: r)) := hi
 have HS : Hid (∀ s ∈ a :: b :: r, s.size ≤ 2199023255552) := hs
 have HE : Hid (Env w) := he
 have D0 : Hid (w.cell? ⟨g, off, none⟩ = some (.string a)) := hc0
 have D1 : Hid (w.cell? ⟨g, off + 1, none⟩ = some (.string b)) := hc1
 have HNU : Hid (z_aJ (a :: b :: r) = false) := hnu
 clear hc0 hc1 hi hs he hnu
 go_enter Tryz.func183, Tryz.ntmps183
 have HN : Hid (pDo (a :: b :: r) = none) := by
  have : ¬ (z_ac a = true ∧ z_ac b = true) := by simpa [allB] using hn
  rw [Hid, pDo, if_neg (by rw [HNU.out]; simp)]
  simp only [pDo0]; rw [if_neg (fun h => this ⟨h.1, h.2.1⟩)]
 go_wp2_with fail
 refine (z_ak (some ⟨g, off, none⟩) cap [a, b] w.heap.size _ (by simp; omega) (by simp) (fun s h => by have := HS.out s (by simp at h ⊢; rcases h with h | h <;> simp [h]); omega) ((HV0.out.take 2).below (((Below.refl _ _).alloc (Nat.le_refl _) _).alloc (by simp) _))).mono ?_
 rintro e w2 ⟨rfl, hb2⟩
 rw [hn]
 have HBX2 : Hid (Boxes w.heap.size w2 ⟨#[]⟩) := (z_bi w _).later hb2
 have H2 : Below w.heap.size w w2 := (((Below.refl _ _).alloc (Nat.le_refl _) _).alloc (by simp) _).trans (hb2.mono (by simp; omega))
 clear c0 c1
 have c0 : w2.cell? ⟨g, off, none⟩ = some (.string a) := (H2.cell (p := ⟨g, off, none⟩) hBw).trans D0.out
 have c1 : w2.cell? ⟨g, off + 1, none⟩ = some (.string b) := (H2.cell (p := ⟨g, off + 1, none⟩) hBw).trans D1.out
 have HB2 : Hid (Below w.heap.size w w2) := H2
 clear hb2 H2
 obtain ⟨x0, x1, x2, x3, x4, y0, y1, y2, y3, y4, fx, fy, hlt⟩ := HBX2.out
 go_wp2
 refine bodyPost_ret (v := .tuple #[.agg #[.int .i64 0, .string ⟨#[]⟩, .string ⟨#[]⟩, .slice none 0 0, .string ⟨#[]⟩], .bool false]) (by simp [results, Tryz.results183, go_sem, x0, x1, x2, x3, x4]) rfl ?_
 exact ReadEnd.no HN.out rfl (z_aw _ (Nat.le_refl _) HB2.out)
theorem z_eN (g off : Nat) (cap : Nat) (a b : ByteArray) (r : List ByteArray) (w : World) (hcap : r.length + 2 ≤ cap) (hl : r.length ≤ 4398046511000) (hs : ∀ s ∈ a :: b :: r, s.size ≤ 2199023255552) (hi : StrsAt 0 w.heap.size w (some ⟨g, off, none⟩) (a :: b :: r)) (he : Env w)
  (hnu : z_aJ (a :: b :: r) = false) (h1 : r.length ≤ 1) (hcap1 : 2 < cap) (h3 : r.length ≤ 3) (hn : allB z_ac [a, b] = true) (hr : allB z_an r = false) :
  Calls Tryz.prog 183 #[.slice (some ⟨g, off, none⟩) (r.length + 2) cap] w fun e w' => ReadEnd (pDo (a :: b :: r)) 0 w e w' := by
 obtain ⟨_, _, e0, hB, hc0⟩ := hi.at 0 (by simp)
 cases e0
 obtain ⟨_, _, e1, _, hc1⟩ := hi.at 1 (by simp)
 cases e1
 obtain ⟨_, hBw⟩ := hB
 have c0 : w.cell? ⟨g, off, none⟩ = some (.string a) := hc0
 have c1 : w.cell? ⟨g, off + 1, none⟩ = some (.string b) := hc1
 have HV0 : Hid (StrsAt 0 w.heap.size w (some ⟨g, off, none⟩) (a :: b :: r)) := hi
 have HS : Hid (∀ s ∈ a :: b :: r, s.size ≤ 2199023255552) := hs
 have HE : Hid (Env w) := he
 have D0 : Hid (w.cell? ⟨g, off, none⟩ = some (.string a)) := hc0
 have D1 : Hid (w.cell? ⟨g, off + 1, none⟩ = some (.string b)) := hc1
 have HNU : Hid (z_aJ (a :: b :: r) = false) := hnu
 clear hc0 hc1 hi hs he hnu
 go_enter Tryz.func183, Tryz.ntmps183
 have HN : Hid (pDo (a :: b :: r) = none) := by
  rw [Hid, pDo, if_neg (by rw [HNU.out]; simp)]
  simp only [pDo0]; rw [if_neg (fun h => by rw [hr] at h; cases h.2.2.2)]
 go_wp2_with fail
 refine (z_ak (some ⟨g, off, none⟩) cap [a, b] w.heap.size _ (by simp; omega) (by simp) (fun s h => by have := HS.out s (by simp at h ⊢; rcases h with h | h <;> simp [h]); omega) ((HV0.out.take 2).below (((Below.refl _ _).alloc (Nat.le_refl _) _).alloc (by simp) _))).mono ?_
 rintro e w2 ⟨rfl, hb2⟩
 rw [hn]
 have HBX2 : Hid (Boxes w.heap.size w2 ⟨#[]⟩) := (z_bi w _).later hb2
 have H2 : Below w.heap.size w w2 := (((Below.refl _ _).alloc (Nat.le_refl _) _).alloc (by simp) _).trans (hb2.mono (by simp; omega))
 clear c0 c1
 have c0 : w2.cell? ⟨g, off, none⟩ = some (.string a) := (H2.cell (p := ⟨g, off, none⟩) hBw).trans D0.out
 have c1 : w2.cell? ⟨g, off + 1, none⟩ = some (.string b) := (H2.cell (p := ⟨g, off + 1, none⟩) hBw).trans D1.out
 have HB2 : Hid (Below w.heap.size w w2) := H2
 clear hb2 H2
 obtain ⟨x0, x1, x2, x3, x4, y0, y1, y2, y3, y4, fx, fy, hlt⟩ := HBX2.out
 have HT : Hid (StrsAt 0 w.heap.size w (some ⟨g, off + 2, none⟩) r) := HV0.out.drop 2
 go_wp2_with fail
 refine (z_ar (some ⟨g, off + 2, none⟩) (cap - 2) r w.heap.size _ HB2.out.size (by omega) (fun s h => HS.out s (by simp [h])) (HE.out.later HB2.out) (HT.out.below HB2.out)).mono ?_
 rintro e w3 ⟨rfl, hb3⟩
 rw [hr]
 have HBX3 : Hid (Boxes w.heap.size w3 ⟨#[]⟩) := HBX2.out.later hb3
 have H3 : Below w.heap.size w w3 := HB2.out.trans (hb3.mono HB2.out.size)
 have hBw2 : g < w2.heap.size := by have := HB2.out.size; omega
 have hq3 := (z_ch hb3).1
 rw [← hq3 _ _ hBw2] at c0 c1
 have HB3 : Hid (Below w.heap.size w w3) := H3
 clear hb3 H3 hq3 x0 x1 x2 x3 x4 y0 y1 y2 y3 y4 fx fy hlt
 obtain ⟨x0, x1, x2, x3, x4, y0, y1, y2, y3, y4, fx, fy, hlt⟩ := HBX3.out
 go_wp2
 refine bodyPost_ret (v := .tuple #[.agg #[.int .i64 0, .string ⟨#[]⟩, .string ⟨#[]⟩, .slice none 0 0, .string ⟨#[]⟩], .bool false]) (by simp [results, Tryz.results183, go_sem, x0, x1, x2, x3, x4]) rfl ?_
 exact ReadEnd.no HN.out rfl (z_aw _ (Nat.le_refl _) HB3.out)
theorem z_hp (g off : Nat) (cap : Nat) (a b : ByteArray) (r : List ByteArray) (w : World) (hcap : r.length + 2 ≤ cap) (hl : r.length ≤ 4398046511000) (hs : ∀ s ∈ a :: b :: r, s.size ≤ 2199023255552) (hi : StrsAt 0 w.heap.size w (some ⟨g, off, none⟩) (a :: b :: r)) (he : Env w)
  (hnu : z_aJ (a :: b :: r) = false) (h1 : r.length ≤ 1) (hcap1 : 2 < cap) (h3 : r.length ≤ 3) (hn : allB z_ac [a, b] = true) (hr : allB z_an r = true) :
  Calls Tryz.prog 183 #[.slice (some ⟨g, off, none⟩) (r.length + 2) cap] w fun e w' => ReadEnd (pDo (a :: b :: r)) 0 w e w' := by
 obtain ⟨_, _, e0, hB, hc0⟩ := hi.at 0 (by simp)
 cases e0
 obtain ⟨_, _, e1, _, hc1⟩ := hi.at 1 (by simp)
 cases e1
 obtain ⟨_, hBw⟩ := hB
 have c0 : w.cell? ⟨g, off, none⟩ = some (.string a) := hc0
 have c1 : w.cell? ⟨g, off + 1, none⟩ = some (.string b) := hc1
 have HV0 : Hid (StrsAt 0 w.heap.size w (some ⟨g, off, none⟩) (a :: b :: r)) := hi
 have HS : Hid (∀ s ∈ a :: b :: r, s.size ≤ 2199023255552) := hs
 have HE : Hid (Env w) := he
 have D0 : Hid (w.cell? ⟨g, off, none⟩ = some (.string a)) := hc0
 have D1 : Hid (w.cell? ⟨g, off + 1, none⟩ = some (.string b)) := hc1
 have HNU : Hid (z_aJ (a :: b :: r) = false) := hnu
 clear hc0 hc1 hi hs he hnu
 go_enter Tryz.func183, Tryz.ntmps183
 have HN : Hid (pDo (a :: b :: r) = some ⟨a, b, r, eS⟩) := by
  have : z_ac a = true ∧ z_ac b = true := by simpa [allB] using hn
  rw [Hid, pDo, if_neg (by rw [HNU.out]; simp)]
  simp only [pDo0]; rw [if_pos ⟨this.1, this.2, h3, hr⟩]
 go_wp2_with fail
 refine (z_ak (some ⟨g, off, none⟩) cap [a, b] w.heap.size _ (by simp; omega) (by simp) (fun s h => by have := HS.out s (by simp at h ⊢; rcases h with h | h <;> simp [h]); omega) ((HV0.out.take 2).below (((Below.refl _ _).alloc (Nat.le_refl _) _).alloc (by simp) _))).mono ?_
 rintro e w2 ⟨rfl, hb2⟩
 rw [hn]
 have HBX2 : Hid (Boxes w.heap.size w2 ⟨#[]⟩) := (z_bi w _).later hb2
 have H2 : Below w.heap.size w w2 := (((Below.refl _ _).alloc (Nat.le_refl _) _).alloc (by simp) _).trans (hb2.mono (by simp; omega))
 clear c0 c1
 have c0 : w2.cell? ⟨g, off, none⟩ = some (.string a) := (H2.cell (p := ⟨g, off, none⟩) hBw).trans D0.out
 have c1 : w2.cell? ⟨g, off + 1, none⟩ = some (.string b) := (H2.cell (p := ⟨g, off + 1, none⟩) hBw).trans D1.out
 have HB2 : Hid (Below w.heap.size w w2) := H2
 clear hb2 H2
 obtain ⟨x0, x1, x2, x3, x4, y0, y1, y2, y3, y4, fx, fy, hlt⟩ := HBX2.out
 have HT : Hid (StrsAt 0 w.heap.size w (some ⟨g, off + 2, none⟩) r) := HV0.out.drop 2
 go_wp2_with fail
 refine (z_ar (some ⟨g, off + 2, none⟩) (cap - 2) r w.heap.size _ HB2.out.size (by omega) (fun s h => HS.out s (by simp [h])) (HE.out.later HB2.out) (HT.out.below HB2.out)).mono ?_
 rintro e w3 ⟨rfl, hb3⟩
 rw [hr]
 have HBX3 : Hid (Boxes w.heap.size w3 ⟨#[]⟩) := HBX2.out.later hb3
 have H3 : Below w.heap.size w w3 := HB2.out.trans (hb3.mono HB2.out.size)
 have hBw2 : g < w2.heap.size := by have := HB2.out.size; omega
 have hq3 := (z_ch hb3).1
 rw [← hq3 _ _ hBw2] at c0 c1
 have HB3 : Hid (Below w.heap.size w w3) := H3
 clear hb3 H3 hq3 x0 x1 x2 x3 x4 y0 y1 y2 y3 y4 fx fy hlt
 obtain ⟨x0, x1, x2, x3, x4, y0, y1, y2, y3, y4, fx, fy, hlt⟩ := HBX3.out
 have hBw3 : g < w3.heap.size := by have := HB3.out.size; omega
 have hgne : g ≠ w.heap.size + 1 := by omega
 skip
 have hltx : w.heap.size < w3.heap.size := by omega
 have hi0 : (0 : Int) < (r.length : Int) + 2 := by omega
 have hi1 : (1 : Int) < (r.length : Int) + 2 := by omega
 go_wp2_with fail
 go_region_held3 (fun wx => wx.cell? ⟨g, off, none⟩ = some (.string a) ∧ wx.cell? ⟨g, off + 1, none⟩ = some (.string b))
  (first | (go_keep; done) | (refine ⟨?_, ?_⟩ <;> (repeat rw [z_aD _ _ _ _ hgne]) <;> assumption))
  (first
   | (go_at_call 88; refine (z_bc (some ⟨g, off + 2, none⟩) (cap - 2) r _ (by omega) ((HT.out.later HB3.out).later (Below.refl _ _).drew)).mono ?_; rintro e w4 ⟨v, rfl, hb4, bo, cap', rfl, hcp, hv⟩; have H4 : Below w3.heap.size w3 w4 := (Below.refl _ _).drew.trans hb4; have HV : Hid (StrsAt w3.heap.size w4.heap.size w4 bo r) := hv; have HB4 : Hid (Below w.heap.size w w4) := HB3.out.trans (H4.mono (by omega)); have HBX4 : Boxes w.heap.size w4 ⟨#[]⟩ := HBX3.out.later H4; obtain ⟨u0, u1, u2, u3, u4, v0, v1, v2, v3, v4, fu, fv, hlt4⟩ := HBX4; obtain ⟨hq, hfq⟩ := z_ch H4; have d0 := (hq g off hBw3).trans c0; have d1 := (hq g (off + 1) hBw3).trans c1; have hlt5 : w3.heap.size ≤ w4.heap.size := H4.size; clear hb4 hv H4 hq hfq))
 all_goals
  go_wp2
  refine bodyPost_ret (v := .tuple #[.agg #[.int .i64 0, .string a, .string b, .slice bo r.length cap', .string ⟨#[]⟩], .bool true]) (by simp [results, Tryz.results183, go_sem, u0, u1, u2, u3, u4]) rfl ?_
  refine ReadEnd.yes (v := .agg #[.int .i64 0, .string a, .string b, .slice bo r.length cap', .string ⟨#[]⟩]) HN.out rfl ?_ ?_
  ·exact z_aw _ (Nat.le_refl _) (((HB4.out.setCell (by simp) _).setCell (by simp) _).setCell (by simp) _)
  ·refine ⟨bo, cap', rfl, hcp, ?_⟩
   have HW := ((HV.out.setCell (p := ⟨w.heap.size + 1, 1, none⟩) (.inl (by simp; omega)) (.string a)).setCell (p := ⟨w.heap.size + 1, 2, none⟩) (.inl (by simp; omega)) (.string b)).setCell (p := ⟨w.heap.size + 1, 3, none⟩) (.inl (by simp; omega)) (.slice bo r.length cap')
   rw [z_bu]
   refine StrsAt.mono (StrsAt.set5 _ HW (.inl (by omega))) (by omega) ?_
   simp [World.setCell]
theorem z_eA (g off : Nat) (cap : Nat) (a b : ByteArray) (r : List ByteArray) (w : World) (hcap : r.length + 2 ≤ cap) (hl : r.length ≤ 4398046511000) (hs : ∀ s ∈ a :: b :: r, s.size ≤ 2199023255552) (hi : StrsAt 0 w.heap.size w (some ⟨g, off, none⟩) (a :: b :: r)) (he : Env w)
  (hnu : z_aJ (a :: b :: r) = false) (e : ByteArray) (h1 : 2 ≤ r.length) (hce : w.cell? ⟨g, off + r.length, none⟩ = some (.string e)) (hq : (e.toList == [117, 110, 100, 111]) = false) (hcap1 : 2 < cap) (h3 : r.length ≤ 3) (hn : allB z_ac [a, b] = false) :
  Calls Tryz.prog 183 #[.slice (some ⟨g, off, none⟩) (r.length + 2) cap] w fun e w' => ReadEnd (pDo (a :: b :: r)) 0 w e w' := by
 obtain ⟨_, _, e0, hB, hc0⟩ := hi.at 0 (by simp)
 cases e0
 obtain ⟨_, _, e1, _, hc1⟩ := hi.at 1 (by simp)
 cases e1
 obtain ⟨_, hBw⟩ := hB
 have c0 : w.cell? ⟨g, off, none⟩ = some (.string a) := hc0
 have c1 : w.cell? ⟨g, off + 1, none⟩ = some (.string b) := hc1
 have HV0 : Hid (StrsAt 0 w.heap.size w (some ⟨g, off, none⟩) (a :: b :: r)) := hi
 have HS : Hid (∀ s ∈ a :: b :: r, s.size ≤ 2199023255552) := hs
 have HE : Hid (Env w) := he
 have D0 : Hid (w.cell? ⟨g, off, none⟩ = some (.string a)) := hc0
 have D1 : Hid (w.cell? ⟨g, off + 1, none⟩ = some (.string b)) := hc1
 have HNU : Hid (z_aJ (a :: b :: r) = false) := hnu
 clear hc0 hc1 hi hs he hnu
 go_enter Tryz.func183, Tryz.ntmps183
 have HN : Hid (pDo (a :: b :: r) = none) := by
  have : ¬ (z_ac a = true ∧ z_ac b = true) := by simpa [allB] using hn
  rw [Hid, pDo, if_neg (by rw [HNU.out]; simp)]
  simp only [pDo0]; rw [if_neg (fun h => this ⟨h.1, h.2.1⟩)]
 go_wp2_with fail
 refine (z_ak (some ⟨g, off, none⟩) cap [a, b] w.heap.size _ (by simp; omega) (by simp) (fun s h => by have := HS.out s (by simp at h ⊢; rcases h with h | h <;> simp [h]); omega) ((HV0.out.take 2).below (((Below.refl _ _).alloc (Nat.le_refl _) _).alloc (by simp) _))).mono ?_
 rintro e w2 ⟨rfl, hb2⟩
 rw [hn]
 have HBX2 : Hid (Boxes w.heap.size w2 ⟨#[]⟩) := (z_bi w _).later hb2
 have H2 : Below w.heap.size w w2 := (((Below.refl _ _).alloc (Nat.le_refl _) _).alloc (by simp) _).trans (hb2.mono (by simp; omega))
 clear c0 c1
 have c0 : w2.cell? ⟨g, off, none⟩ = some (.string a) := (H2.cell (p := ⟨g, off, none⟩) hBw).trans D0.out
 have c1 : w2.cell? ⟨g, off + 1, none⟩ = some (.string b) := (H2.cell (p := ⟨g, off + 1, none⟩) hBw).trans D1.out
 have HB2 : Hid (Below w.heap.size w w2) := H2
 clear hb2 H2
 obtain ⟨x0, x1, x2, x3, x4, y0, y1, y2, y3, y4, fx, fy, hlt⟩ := HBX2.out
 go_wp2
 refine bodyPost_ret (v := .tuple #[.agg #[.int .i64 0, .string ⟨#[]⟩, .string ⟨#[]⟩, .slice none 0 0, .string ⟨#[]⟩], .bool false]) (by simp [results, Tryz.results183, go_sem, x0, x1, x2, x3, x4]) rfl ?_
 exact ReadEnd.no HN.out rfl (z_aw _ (Nat.le_refl _) HB2.out)
theorem z_fC (g off : Nat) (cap : Nat) (a b : ByteArray) (r : List ByteArray) (w : World) (hcap : r.length + 2 ≤ cap) (hl : r.length ≤ 4398046511000) (hs : ∀ s ∈ a :: b :: r, s.size ≤ 2199023255552) (hi : StrsAt 0 w.heap.size w (some ⟨g, off, none⟩) (a :: b :: r)) (he : Env w)
  (hnu : z_aJ (a :: b :: r) = false) (e : ByteArray) (h1 : 2 ≤ r.length) (hce : w.cell? ⟨g, off + r.length, none⟩ = some (.string e)) (hq : (e.toList == [117, 110, 100, 111]) = false) (hcap1 : 2 < cap) (h3 : r.length ≤ 3) (hn : allB z_ac [a, b] = true) (hr : allB z_an r = false) :
  Calls Tryz.prog 183 #[.slice (some ⟨g, off, none⟩) (r.length + 2) cap] w fun e w' => ReadEnd (pDo (a :: b :: r)) 0 w e w' := by
 obtain ⟨_, _, e0, hB, hc0⟩ := hi.at 0 (by simp)
 cases e0
 obtain ⟨_, _, e1, _, hc1⟩ := hi.at 1 (by simp)
 cases e1
 obtain ⟨_, hBw⟩ := hB
 have c0 : w.cell? ⟨g, off, none⟩ = some (.string a) := hc0
 have c1 : w.cell? ⟨g, off + 1, none⟩ = some (.string b) := hc1
 have HV0 : Hid (StrsAt 0 w.heap.size w (some ⟨g, off, none⟩) (a :: b :: r)) := hi
 have HS : Hid (∀ s ∈ a :: b :: r, s.size ≤ 2199023255552) := hs
 have HE : Hid (Env w) := he
 have D0 : Hid (w.cell? ⟨g, off, none⟩ = some (.string a)) := hc0
 have D1 : Hid (w.cell? ⟨g, off + 1, none⟩ = some (.string b)) := hc1
 have HNU : Hid (z_aJ (a :: b :: r) = false) := hnu
 clear hc0 hc1 hi hs he hnu
 go_enter Tryz.func183, Tryz.ntmps183
 have HN : Hid (pDo (a :: b :: r) = none) := by
  rw [Hid, pDo, if_neg (by rw [HNU.out]; simp)]
  simp only [pDo0]; rw [if_neg (fun h => by rw [hr] at h; cases h.2.2.2)]
 go_wp2_with fail
 refine (z_ak (some ⟨g, off, none⟩) cap [a, b] w.heap.size _ (by simp; omega) (by simp) (fun s h => by have := HS.out s (by simp at h ⊢; rcases h with h | h <;> simp [h]); omega) ((HV0.out.take 2).below (((Below.refl _ _).alloc (Nat.le_refl _) _).alloc (by simp) _))).mono ?_
 rintro e w2 ⟨rfl, hb2⟩
 rw [hn]
 have HBX2 : Hid (Boxes w.heap.size w2 ⟨#[]⟩) := (z_bi w _).later hb2
 have H2 : Below w.heap.size w w2 := (((Below.refl _ _).alloc (Nat.le_refl _) _).alloc (by simp) _).trans (hb2.mono (by simp; omega))
 clear c0 c1
 have c0 : w2.cell? ⟨g, off, none⟩ = some (.string a) := (H2.cell (p := ⟨g, off, none⟩) hBw).trans D0.out
 have c1 : w2.cell? ⟨g, off + 1, none⟩ = some (.string b) := (H2.cell (p := ⟨g, off + 1, none⟩) hBw).trans D1.out
 have HB2 : Hid (Below w.heap.size w w2) := H2
 clear hb2 H2
 obtain ⟨x0, x1, x2, x3, x4, y0, y1, y2, y3, y4, fx, fy, hlt⟩ := HBX2.out
 have HT : Hid (StrsAt 0 w.heap.size w (some ⟨g, off + 2, none⟩) r) := HV0.out.drop 2
 go_wp2_with fail
 refine (z_ar (some ⟨g, off + 2, none⟩) (cap - 2) r w.heap.size _ HB2.out.size (by omega) (fun s h => HS.out s (by simp [h])) (HE.out.later HB2.out) (HT.out.below HB2.out)).mono ?_
 rintro e w3 ⟨rfl, hb3⟩
 rw [hr]
 have HBX3 : Hid (Boxes w.heap.size w3 ⟨#[]⟩) := HBX2.out.later hb3
 have H3 : Below w.heap.size w w3 := HB2.out.trans (hb3.mono HB2.out.size)
 have hBw2 : g < w2.heap.size := by have := HB2.out.size; omega
 have hq3 := (z_ch hb3).1
 rw [← hq3 _ _ hBw2] at c0 c1
 have HB3 : Hid (Below w.heap.size w w3) := H3
 clear hb3 H3 hq3 x0 x1 x2 x3 x4 y0 y1 y2 y3 y4 fx fy hlt
 obtain ⟨x0, x1, x2, x3, x4, y0, y1, y2, y3, y4, fx, fy, hlt⟩ := HBX3.out
 go_wp2
 refine bodyPost_ret (v := .tuple #[.agg #[.int .i64 0, .string ⟨#[]⟩, .string ⟨#[]⟩, .slice none 0 0, .string ⟨#[]⟩], .bool false]) (by simp [results, Tryz.results183, go_sem, x0, x1, x2, x3, x4]) rfl ?_
 exact ReadEnd.no HN.out rfl (z_aw _ (Nat.le_refl _) HB3.out)
theorem z_gu (g off : Nat) (cap : Nat) (a b : ByteArray) (r : List ByteArray) (w : World) (hcap : r.length + 2 ≤ cap) (hl : r.length ≤ 4398046511000) (hs : ∀ s ∈ a :: b :: r, s.size ≤ 2199023255552) (hi : StrsAt 0 w.heap.size w (some ⟨g, off, none⟩) (a :: b :: r)) (he : Env w)
  (hnu : z_aJ (a :: b :: r) = false) (e : ByteArray) (h1 : 2 ≤ r.length) (hce : w.cell? ⟨g, off + r.length, none⟩ = some (.string e)) (hq : (e.toList == [117, 110, 100, 111]) = false) (hcap1 : 2 < cap) (h3 : r.length ≤ 3) (hn : allB z_ac [a, b] = true) (hr : allB z_an r = true) :
  Calls Tryz.prog 183 #[.slice (some ⟨g, off, none⟩) (r.length + 2) cap] w fun e w' => ReadEnd (pDo (a :: b :: r)) 0 w e w' := by
 obtain ⟨_, _, e0, hB, hc0⟩ := hi.at 0 (by simp)
 cases e0
 obtain ⟨_, _, e1, _, hc1⟩ := hi.at 1 (by simp)
 cases e1
 obtain ⟨_, hBw⟩ := hB
 have c0 : w.cell? ⟨g, off, none⟩ = some (.string a) := hc0
 have c1 : w.cell? ⟨g, off + 1, none⟩ = some (.string b) := hc1
 have HV0 : Hid (StrsAt 0 w.heap.size w (some ⟨g, off, none⟩) (a :: b :: r)) := hi
 have HS : Hid (∀ s ∈ a :: b :: r, s.size ≤ 2199023255552) := hs
 have HE : Hid (Env w) := he
 have D0 : Hid (w.cell? ⟨g, off, none⟩ = some (.string a)) := hc0
 have D1 : Hid (w.cell? ⟨g, off + 1, none⟩ = some (.string b)) := hc1
 have HNU : Hid (z_aJ (a :: b :: r) = false) := hnu
 clear hc0 hc1 hi hs he hnu
 go_enter Tryz.func183, Tryz.ntmps183
 have HN : Hid (pDo (a :: b :: r) = some ⟨a, b, r, eS⟩) := by
  have : z_ac a = true ∧ z_ac b = true := by simpa [allB] using hn
  rw [Hid, pDo, if_neg (by rw [HNU.out]; simp)]
  simp only [pDo0]; rw [if_pos ⟨this.1, this.2, h3, hr⟩]
 go_wp2_with fail
 refine (z_ak (some ⟨g, off, none⟩) cap [a, b] w.heap.size _ (by simp; omega) (by simp) (fun s h => by have := HS.out s (by simp at h ⊢; rcases h with h | h <;> simp [h]); omega) ((HV0.out.take 2).below (((Below.refl _ _).alloc (Nat.le_refl _) _).alloc (by simp) _))).mono ?_
 rintro e w2 ⟨rfl, hb2⟩
 rw [hn]
 have HBX2 : Hid (Boxes w.heap.size w2 ⟨#[]⟩) := (z_bi w _).later hb2
 have H2 : Below w.heap.size w w2 := (((Below.refl _ _).alloc (Nat.le_refl _) _).alloc (by simp) _).trans (hb2.mono (by simp; omega))
 clear c0 c1
 have c0 : w2.cell? ⟨g, off, none⟩ = some (.string a) := (H2.cell (p := ⟨g, off, none⟩) hBw).trans D0.out
 have c1 : w2.cell? ⟨g, off + 1, none⟩ = some (.string b) := (H2.cell (p := ⟨g, off + 1, none⟩) hBw).trans D1.out
 have HB2 : Hid (Below w.heap.size w w2) := H2
 clear hb2 H2
 obtain ⟨x0, x1, x2, x3, x4, y0, y1, y2, y3, y4, fx, fy, hlt⟩ := HBX2.out
 have HT : Hid (StrsAt 0 w.heap.size w (some ⟨g, off + 2, none⟩) r) := HV0.out.drop 2
 go_wp2_with fail
 refine (z_ar (some ⟨g, off + 2, none⟩) (cap - 2) r w.heap.size _ HB2.out.size (by omega) (fun s h => HS.out s (by simp [h])) (HE.out.later HB2.out) (HT.out.below HB2.out)).mono ?_
 rintro e w3 ⟨rfl, hb3⟩
 rw [hr]
 have HBX3 : Hid (Boxes w.heap.size w3 ⟨#[]⟩) := HBX2.out.later hb3
 have H3 : Below w.heap.size w w3 := HB2.out.trans (hb3.mono HB2.out.size)
 have hBw2 : g < w2.heap.size := by have := HB2.out.size; omega
 have hq3 := (z_ch hb3).1
 rw [← hq3 _ _ hBw2] at c0 c1
 have HB3 : Hid (Below w.heap.size w w3) := H3
 clear hb3 H3 hq3 x0 x1 x2 x3 x4 y0 y1 y2 y3 y4 fx fy hlt
 obtain ⟨x0, x1, x2, x3, x4, y0, y1, y2, y3, y4, fx, fy, hlt⟩ := HBX3.out
 have hBw3 : g < w3.heap.size := by have := HB3.out.size; omega
 have hgne : g ≠ w.heap.size + 1 := by omega
 skip
 have hltx : w.heap.size < w3.heap.size := by omega
 have hi0 : (0 : Int) < (r.length : Int) + 2 := by omega
 have hi1 : (1 : Int) < (r.length : Int) + 2 := by omega
 go_wp2_with fail
 go_region_held3 (fun wx => wx.cell? ⟨g, off, none⟩ = some (.string a) ∧ wx.cell? ⟨g, off + 1, none⟩ = some (.string b))
  (first | (go_keep; done) | (refine ⟨?_, ?_⟩ <;> (repeat rw [z_aD _ _ _ _ hgne]) <;> assumption))
  (first
   | (go_at_call 88; refine (z_bc (some ⟨g, off + 2, none⟩) (cap - 2) r _ (by omega) ((HT.out.later HB3.out).later (Below.refl _ _).drew)).mono ?_; rintro e w4 ⟨v, rfl, hb4, bo, cap', rfl, hcp, hv⟩; have H4 : Below w3.heap.size w3 w4 := (Below.refl _ _).drew.trans hb4; have HV : Hid (StrsAt w3.heap.size w4.heap.size w4 bo r) := hv; have HB4 : Hid (Below w.heap.size w w4) := HB3.out.trans (H4.mono (by omega)); have HBX4 : Boxes w.heap.size w4 ⟨#[]⟩ := HBX3.out.later H4; obtain ⟨u0, u1, u2, u3, u4, v0, v1, v2, v3, v4, fu, fv, hlt4⟩ := HBX4; obtain ⟨hq, hfq⟩ := z_ch H4; have d0 := (hq g off hBw3).trans c0; have d1 := (hq g (off + 1) hBw3).trans c1; have hlt5 : w3.heap.size ≤ w4.heap.size := H4.size; clear hb4 hv H4 hq hfq))
 all_goals
  go_wp2
  refine bodyPost_ret (v := .tuple #[.agg #[.int .i64 0, .string a, .string b, .slice bo r.length cap', .string ⟨#[]⟩], .bool true]) (by simp [results, Tryz.results183, go_sem, u0, u1, u2, u3, u4]) rfl ?_
  refine ReadEnd.yes (v := .agg #[.int .i64 0, .string a, .string b, .slice bo r.length cap', .string ⟨#[]⟩]) HN.out rfl ?_ ?_
  ·exact z_aw _ (Nat.le_refl _) (((HB4.out.setCell (by simp) _).setCell (by simp) _).setCell (by simp) _)
  ·refine ⟨bo, cap', rfl, hcp, ?_⟩
   have HW := ((HV.out.setCell (p := ⟨w.heap.size + 1, 1, none⟩) (.inl (by simp; omega)) (.string a)).setCell (p := ⟨w.heap.size + 1, 2, none⟩) (.inl (by simp; omega)) (.string b)).setCell (p := ⟨w.heap.size + 1, 3, none⟩) (.inl (by simp; omega)) (.slice bo r.length cap')
   rw [z_bu]
   refine StrsAt.mono (StrsAt.set5 _ HW (.inl (by omega))) (by omega) ?_
   simp [World.setCell]
theorem z_iE (g off : Nat) (cap : Nat) (a b : ByteArray) (r : List ByteArray) (w : World) (hcap : r.length + 2 ≤ cap) (hl : r.length ≤ 4398046511000) (hs : ∀ s ∈ a :: b :: r, s.size ≤ 2199023255552) (hi : StrsAt 0 w.heap.size w (some ⟨g, off, none⟩) (a :: b :: r)) (he : Env w)
  (hnu : z_aJ (a :: b :: r) = false) (e : ByteArray) (h1 : 2 ≤ r.length) (hce : w.cell? ⟨g, off + r.length, none⟩ = some (.string e)) (hq : (e.toList == [117, 110, 100, 111]) = false) (hcap1 : 2 < cap) (h3 : 3 < r.length) :
  Calls Tryz.prog 183 #[.slice (some ⟨g, off, none⟩) (r.length + 2) cap] w fun e w' => ReadEnd (pDo (a :: b :: r)) 0 w e w' := by
 obtain ⟨_, _, e0, hB, hc0⟩ := hi.at 0 (by simp)
 cases e0
 obtain ⟨_, _, e1, _, hc1⟩ := hi.at 1 (by simp)
 cases e1
 obtain ⟨_, hBw⟩ := hB
 have c0 : w.cell? ⟨g, off, none⟩ = some (.string a) := hc0
 have c1 : w.cell? ⟨g, off + 1, none⟩ = some (.string b) := hc1
 have HV0 : Hid (StrsAt 0 w.heap.size w (some ⟨g, off, none⟩) (a :: b :: r)) := hi
 have HS : Hid (∀ s ∈ a :: b :: r, s.size ≤ 2199023255552) := hs
 have HE : Hid (Env w) := he
 have D0 : Hid (w.cell? ⟨g, off, none⟩ = some (.string a)) := hc0
 have D1 : Hid (w.cell? ⟨g, off + 1, none⟩ = some (.string b)) := hc1
 have HNU : Hid (z_aJ (a :: b :: r) = false) := hnu
 clear hc0 hc1 hi hs he hnu
 go_enter Tryz.func183, Tryz.ntmps183
 have HN : Hid (pDo (a :: b :: r) = none) := by
  rw [Hid, pDo, if_neg (by rw [HNU.out]; simp)]
  simp only [pDo0]; rw [if_neg (fun h => by omega)]
 go_wp2
 refine bodyPost_ret (v := .tuple #[.agg #[.int .i64 0, .string ⟨#[]⟩, .string ⟨#[]⟩, .slice none 0 0, .string ⟨#[]⟩], .bool false]) (by simp [results, Tryz.results183, go_sem]) rfl ?_
 exact ReadEnd.no HN.out rfl (((Below.refl _ _).alloc (Nat.le_refl _) _).alloc (by simp) _)
theorem z_eV (g off : Nat) (a b : ByteArray) (w : World) (hs : ∀ s ∈ [a, b], s.size ≤ 2199023255552) (hi : StrsAt 0 w.heap.size w (some ⟨g, off, none⟩) ([a, b])) (he : Env w)
  (hnu : z_aJ ([a, b]) = false) (hn : allB z_ac [a, b] = false) :
  Calls Tryz.prog 183 #[.slice (some ⟨g, off, none⟩) 2 2] w fun e w' => ReadEnd (pDo ([a, b])) 0 w e w' := by
 obtain ⟨_, _, e0, hB, hc0⟩ := hi.at 0 (by simp)
 cases e0
 obtain ⟨_, _, e1, _, hc1⟩ := hi.at 1 (by simp)
 cases e1
 obtain ⟨_, hBw⟩ := hB
 have c0 : w.cell? ⟨g, off, none⟩ = some (.string a) := hc0
 have c1 : w.cell? ⟨g, off + 1, none⟩ = some (.string b) := hc1
 have HV0 : Hid (StrsAt 0 w.heap.size w (some ⟨g, off, none⟩) ([a, b])) := hi
 have HS : Hid (∀ s ∈ [a, b], s.size ≤ 2199023255552) := hs
 have HE : Hid (Env w) := he
 have D0 : Hid (w.cell? ⟨g, off, none⟩ = some (.string a)) := hc0
 have D1 : Hid (w.cell? ⟨g, off + 1, none⟩ = some (.string b)) := hc1
 have HNU : Hid (z_aJ ([a, b]) = false) := hnu
 clear hc0 hc1 hi hs he hnu
 go_enter Tryz.func183, Tryz.ntmps183
 have HN : Hid (pDo ([a, b]) = none) := by
  have : ¬ (z_ac a = true ∧ z_ac b = true) := by simpa [allB] using hn
  rw [Hid, pDo, if_neg (by rw [HNU.out]; simp)]
  simp only [pDo0]; rw [if_neg (fun h => this ⟨h.1, h.2.1⟩)]
 go_wp2_with fail
 refine (z_ak (some ⟨g, off, none⟩) 2 [a, b] w.heap.size _ (by simp; omega) (by simp) (fun s h => by have := HS.out s (by simp at h ⊢; rcases h with h | h <;> simp [h]); omega) ((HV0.out.take 2).below (((Below.refl _ _).alloc (Nat.le_refl _) _).alloc (by simp) _))).mono ?_
 rintro e w2 ⟨rfl, hb2⟩
 rw [hn]
 have HBX2 : Hid (Boxes w.heap.size w2 ⟨#[]⟩) := (z_bi w _).later hb2
 have H2 : Below w.heap.size w w2 := (((Below.refl _ _).alloc (Nat.le_refl _) _).alloc (by simp) _).trans (hb2.mono (by simp; omega))
 clear c0 c1
 have c0 : w2.cell? ⟨g, off, none⟩ = some (.string a) := (H2.cell (p := ⟨g, off, none⟩) hBw).trans D0.out
 have c1 : w2.cell? ⟨g, off + 1, none⟩ = some (.string b) := (H2.cell (p := ⟨g, off + 1, none⟩) hBw).trans D1.out
 have HB2 : Hid (Below w.heap.size w w2) := H2
 clear hb2 H2
 obtain ⟨x0, x1, x2, x3, x4, y0, y1, y2, y3, y4, fx, fy, hlt⟩ := HBX2.out
 go_wp2
 refine bodyPost_ret (v := .tuple #[.agg #[.int .i64 0, .string ⟨#[]⟩, .string ⟨#[]⟩, .slice none 0 0, .string ⟨#[]⟩], .bool false]) (by simp [results, Tryz.results183, go_sem, x0, x1, x2, x3, x4]) rfl ?_
 exact ReadEnd.no HN.out rfl (z_aw _ (Nat.le_refl _) HB2.out)
theorem z_iT (g off : Nat) (a b : ByteArray) (w : World) (hs : ∀ s ∈ [a, b], s.size ≤ 2199023255552) (hi : StrsAt 0 w.heap.size w (some ⟨g, off, none⟩) ([a, b])) (he : Env w)
  (hnu : z_aJ ([a, b]) = false) (hn : allB z_ac [a, b] = true)  :
  Calls Tryz.prog 183 #[.slice (some ⟨g, off, none⟩) 2 2] w fun e w' => ReadEnd (pDo ([a, b])) 0 w e w' := by
 obtain ⟨_, _, e0, hB, hc0⟩ := hi.at 0 (by simp)
 cases e0
 obtain ⟨_, _, e1, _, hc1⟩ := hi.at 1 (by simp)
 cases e1
 obtain ⟨_, hBw⟩ := hB
 have c0 : w.cell? ⟨g, off, none⟩ = some (.string a) := hc0
 have c1 : w.cell? ⟨g, off + 1, none⟩ = some (.string b) := hc1
 have HV0 : Hid (StrsAt 0 w.heap.size w (some ⟨g, off, none⟩) ([a, b])) := hi
 have HS : Hid (∀ s ∈ [a, b], s.size ≤ 2199023255552) := hs
 have HE : Hid (Env w) := he
 have D0 : Hid (w.cell? ⟨g, off, none⟩ = some (.string a)) := hc0
 have D1 : Hid (w.cell? ⟨g, off + 1, none⟩ = some (.string b)) := hc1
 have HNU : Hid (z_aJ ([a, b]) = false) := hnu
 clear hc0 hc1 hi hs he hnu
 go_enter Tryz.func183, Tryz.ntmps183
 have HN : Hid (pDo ([a, b]) = some ⟨a, b, [], eS⟩) := by
  have : z_ac a = true ∧ z_ac b = true := by simpa [allB] using hn
  rw [Hid, pDo, if_neg (by rw [HNU.out]; simp)]
  simp only [pDo0]; rw [if_pos ⟨this.1, this.2, by simp, rfl⟩]
 go_wp2_with fail
 refine (z_ak (some ⟨g, off, none⟩) 2 [a, b] w.heap.size _ (by simp; omega) (by simp) (fun s h => by have := HS.out s (by simp at h ⊢; rcases h with h | h <;> simp [h]); omega) ((HV0.out.take 2).below (((Below.refl _ _).alloc (Nat.le_refl _) _).alloc (by simp) _))).mono ?_
 rintro e w2 ⟨rfl, hb2⟩
 rw [hn]
 have HBX2 : Hid (Boxes w.heap.size w2 ⟨#[]⟩) := (z_bi w _).later hb2
 have H2 : Below w.heap.size w w2 := (((Below.refl _ _).alloc (Nat.le_refl _) _).alloc (by simp) _).trans (hb2.mono (by simp; omega))
 clear c0 c1
 have c0 : w2.cell? ⟨g, off, none⟩ = some (.string a) := (H2.cell (p := ⟨g, off, none⟩) hBw).trans D0.out
 have c1 : w2.cell? ⟨g, off + 1, none⟩ = some (.string b) := (H2.cell (p := ⟨g, off + 1, none⟩) hBw).trans D1.out
 have HB2 : Hid (Below w.heap.size w w2) := H2
 clear hb2 H2
 obtain ⟨x0, x1, x2, x3, x4, y0, y1, y2, y3, y4, fx, fy, hlt⟩ := HBX2.out
 have HT : Hid (StrsAt 0 w.heap.size w (some ⟨g, off, none⟩) []) := StrsAt.nil _ _ _ _
 go_wp2_with fail
 refine (z_ar (some ⟨g, off, none⟩) 0 [] w.heap.size _ HB2.out.size (by simp) (fun s h => by simp at h) (HE.out.later HB2.out) (HT.out.below HB2.out)).mono ?_
 rintro e w3 ⟨rfl, hb3⟩
 rw [show allB z_an [] = true from rfl]
 have HBX3 : Hid (Boxes w.heap.size w3 ⟨#[]⟩) := HBX2.out.later hb3
 have H3 : Below w.heap.size w w3 := HB2.out.trans (hb3.mono HB2.out.size)
 have hBw2 : g < w2.heap.size := by have := HB2.out.size; omega
 have hq3 := (z_ch hb3).1
 rw [← hq3 _ _ hBw2] at c0 c1
 have HB3 : Hid (Below w.heap.size w w3) := H3
 clear hb3 H3 hq3 x0 x1 x2 x3 x4 y0 y1 y2 y3 y4 fx fy hlt
 obtain ⟨x0, x1, x2, x3, x4, y0, y1, y2, y3, y4, fx, fy, hlt⟩ := HBX3.out
 have hBw3 : g < w3.heap.size := by have := HB3.out.size; omega
 have hgne : g ≠ w.heap.size + 1 := by omega
 skip
 have hltx : w.heap.size < w3.heap.size := by omega
 have hi0 : (0 : Int) < 2 := by omega
 have hi1 : (1 : Int) < 2 := by omega
 go_wp2_with fail
 go_region_held3 (fun wx => wx.cell? ⟨g, off, none⟩ = some (.string a) ∧ wx.cell? ⟨g, off + 1, none⟩ = some (.string b))
  (first | (go_keep; done) | (refine ⟨?_, ?_⟩ <;> (repeat rw [z_aD _ _ _ _ hgne]) <;> assumption))
  (first
   | (go_at_call 88; refine (z_bc (some ⟨g, off, none⟩) 0 [] _ (by simp) ((HT.out.later HB3.out).later (Below.refl _ _).drew)).mono ?_; rintro e w4 ⟨v, rfl, hb4, bo, cap', rfl, hcp, hv⟩; have H4 : Below w3.heap.size w3 w4 := (Below.refl _ _).drew.trans hb4; have HV : Hid (StrsAt w3.heap.size w4.heap.size w4 bo []) := hv; have HB4 : Hid (Below w.heap.size w w4) := HB3.out.trans (H4.mono (by omega)); have HBX4 : Boxes w.heap.size w4 ⟨#[]⟩ := HBX3.out.later H4; obtain ⟨u0, u1, u2, u3, u4, v0, v1, v2, v3, v4, fu, fv, hlt4⟩ := HBX4; obtain ⟨hq, hfq⟩ := z_ch H4; have d0 := (hq g off hBw3).trans c0; have d1 := (hq g (off + 1) hBw3).trans c1; have hlt5 : w3.heap.size ≤ w4.heap.size := H4.size; clear hb4 hv H4 hq hfq))
 all_goals
  go_wp2
  refine bodyPost_ret (v := .tuple #[.agg #[.int .i64 0, .string a, .string b, .slice bo 0 cap', .string ⟨#[]⟩], .bool true]) (by simp [results, Tryz.results183, go_sem, u0, u1, u2, u3, u4]) rfl ?_
  refine ReadEnd.yes (v := .agg #[.int .i64 0, .string a, .string b, .slice bo 0 cap', .string ⟨#[]⟩]) HN.out rfl ?_ ?_
  ·exact z_aw _ (Nat.le_refl _) (((HB4.out.setCell (by simp) _).setCell (by simp) _).setCell (by simp) _)
  ·refine ⟨bo, cap', rfl, hcp, ?_⟩
   have HW := ((HV.out.setCell (p := ⟨w.heap.size + 1, 1, none⟩) (.inl (by simp; omega)) (.string a)).setCell (p := ⟨w.heap.size + 1, 2, none⟩) (.inl (by simp; omega)) (.string b)).setCell (p := ⟨w.heap.size + 1, 3, none⟩) (.inl (by simp; omega)) (.slice bo 0 cap')
   rw [z_bu]
   refine StrsAt.mono (StrsAt.set5 _ HW (.inl (by omega))) (by omega) ?_
   simp [World.setCell]
theorem z_el (ao : Option Addr) (cap : Nat) (ws : List ByteArray) (w : World) (h2 : ws.length < 2) :
  Calls Tryz.prog 183 #[.slice ao ws.length cap] w fun e w' => ReadEnd (pDo ws) 0 w e w' := by
 have HN : Hid (pDo ws = none) := by
  match ws, h2 with
  | [], _ => rfl
  | [_], _ => rfl
  | _ :: _ :: _, h2 => simp at h2; omega
 have h3 : (ws.length : Int) < 2 := by omega
 have h4 : (ws.length : Int) ≤ 3 := by omega
 go_enter Tryz.func183, Tryz.ntmps183
 go_wp2
 refine bodyPost_ret (v := .tuple #[.agg #[.int .i64 0, .string ⟨#[]⟩, .string ⟨#[]⟩, .slice none 0 0, .string ⟨#[]⟩], .bool false]) (by simp [results, Tryz.results183, go_sem]) rfl ?_
 exact ReadEnd.no HN.out rfl (((Below.refl _ _).alloc (Nat.le_refl _) _).alloc (by simp) _)
theorem z_lb (r : List ByteArray) (h : 2 ≤ r.length) : ∃ r' u x, r = r' ++ [u, x] := by
 refine ⟨r.take (r.length - 2), r[r.length - 2]'(by omega), r[r.length - 1]'(by omega), ?_⟩
 have e1 : r.drop (r.length - 2) = [r[r.length - 2]'(by omega), r[r.length - 1]'(by omega)] := by
  rw [List.drop_eq_getElem_cons (by omega), List.drop_eq_getElem_cons (by omega), List.drop_of_length_le (by omega)]
  simp only [List.cons.injEq, and_true, true_and]
  congr 1; omega
 rw [← e1, List.take_append_drop]
theorem z_kU (ao : Option Addr) (cap : Nat) (ws : List ByteArray) (w : World) (hcap : ws.length ≤ cap) (hl : ws.length ≤ 4398046511000) (hs : ∀ s ∈ ws, s.size ≤ 2199023255552) (hi : StrsAt 0 w.heap.size w ao ws) (he : Env w) :
  Calls Tryz.prog 183 #[.slice ao ws.length cap] w fun e w' => ReadEnd (pDo ws) 0 w e w' := by
 match ws, hcap, hl, hs, hi with
 | [], _, _, _, _ => exact z_el ao cap [] w (by simp)
 | [a], _, _, _, _ => exact z_el ao cap [a] w (by simp)
 | a :: b :: r, hcap, hl, hs, hi =>
  obtain ⟨g, off, rfl, _, _⟩ := hi.at 0 (by simp)
  simp only [List.length_cons] at hl hcap ⊢
  cases hnu : z_aJ (a :: b :: r) with
  | true =>
   have hlen : 2 ≤ r.length := by
    simp only [z_aJ, Bool.and_eq_true, decide_eq_true_eq, List.length_cons] at hnu
    omega
   obtain ⟨r', u, x, rfl⟩ := z_lb r hlen
   have hu : (u.toList == [117, 110, 100, 111]) = true := by
    simp only [z_aJ, Bool.and_eq_true] at hnu
    have e1 : (a :: b :: (r' ++ [u, x])).length - 2 = r'.length + 2 := by simp
    have e2 : (a :: b :: (r' ++ [u, x])).getD (r'.length + 2) eS = u := by simp [List.getD]
    rw [e1, e2] at hnu
    exact hnu.2
   simp only [List.length_append, List.length_cons, List.length_nil] at hcap hl ⊢
   cases hx : z_ac x with
   | false => exact z_mj g off cap a b u x r' w (by omega) hs hi he hu hx
   | true =>
    by_cases h3 : r'.length ≤ 3
    ·cases hn : allB z_ac [a, b] with
     | false => exact z_fc g off cap a b u x r' w (by omega) (by omega) hs hi he hu hx h3 hn
     | true =>
      cases hr : allB z_an r' with
      | false => exact z_fX g off cap a b u x r' w (by omega) (by omega) hs hi he hu hx h3 hn hr
      | true => exact z_iu g off cap a b u x r' w (by omega) (by omega) hs hi he hu hx h3 hn hr
    ·exact z_id g off cap a b u x r' w (by omega) (by omega) hs hi he hu hx (by omega)
  | false =>
   by_cases h1 : r.length ≤ 1
   ·by_cases hc2 : 2 < cap
    ·cases hn : allB z_ac [a, b] with
     | false => exact z_eB g off cap a b r w hcap (by omega) hs hi he hnu h1 hc2 (by omega) hn
     | true =>
      cases hr : allB z_an r with
      | false => exact z_eN g off cap a b r w hcap (by omega) hs hi he hnu h1 hc2 (by omega) hn hr
      | true => exact z_hp g off cap a b r w hcap (by omega) hs hi he hnu h1 hc2 (by omega) hn hr
    ·have e1 : cap = 2 := by omega
     have e2 : r = [] := List.length_eq_zero_iff.1 (by omega)
     subst e1 e2
     cases hn : allB z_ac [a, b] with
     | false => exact z_eV g off a b w hs hi he hnu hn
     | true => exact z_iT g off a b w hs hi he hnu hn
   ·obtain ⟨e, hce, hq⟩ : ∃ e, w.cell? ⟨g, off + r.length, none⟩ = some (.string e) ∧ (e.toList == [117, 110, 100, 111]) = false := by
     obtain ⟨_, _, e1, _, hc1⟩ := hi.at r.length (by simp; omega)
     cases e1
     refine ⟨_, hc1, ?_⟩
     have e2 : (a :: b :: r).length - 2 = r.length := by simp
     have hlt : 3 < (a :: b :: r).length := by simp; omega
     simp only [z_aJ, hlt, decide_true, Bool.true_and, e2] at hnu
     have e3 : ∀ (l : List ByteArray) (i : Nat) (h : i < l.length), l.getD i eS = l[i] := by
      intro l i h; simp [List.getD, h]
     rw [e3 _ _ (by simp; omega)] at hnu
     exact hnu
    by_cases h3 : r.length ≤ 3
    ·cases hn : allB z_ac [a, b] with
     | false => exact z_eA g off cap a b r w hcap (by omega) hs hi he hnu e (by omega) hce hq (by omega) h3 hn
     | true =>
      cases hr : allB z_an r with
      | false => exact z_fC g off cap a b r w hcap (by omega) hs hi he hnu e (by omega) hce hq (by omega) h3 hn hr
      | true => exact z_gu g off cap a b r w hcap (by omega) hs hi he hnu e (by omega) hce hq (by omega) h3 hn hr
    ·exact z_iE g off cap a b r w hcap (by omega) hs hi he hnu e (by omega) hce hq (by omega) (by omega)
end Go.Proofs.YtlbjjbolbopfmaaGreatDoor
