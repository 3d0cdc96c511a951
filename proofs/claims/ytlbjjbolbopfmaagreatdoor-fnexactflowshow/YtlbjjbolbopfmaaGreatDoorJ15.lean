import Derived.Test.YtlbjjbolbopfmaaGreatDoorJ14
import Derived.Test.YtlbjjbolbopfmaaGreatDoorJ09
import Derived.Defers
import Derived.Deep.RegionHeld3
namespace Go.Proofs.YtlbjjbolbopfmaaGreatDoor
set_option maxHeartbeats 4000000
set_option maxRecDepth 1000000
set_option linter.unusedVariables false
open Go.RowKit
theorem z_b3 (p q : Nat) (a b v : Value) (n : Nat) (u : FrameMode) (w : World) (hp : w.cell? ⟨p, 0, none⟩ = some (.pointer (some ⟨q, 0, none⟩))) (hq : WObj w q a b v (.int .i64 (n + 1 : Nat))) (hn : n ≤ 1000) :
  CallsD Tryz.prog 194 #[.pointer (some ⟨p, 0, none⟩)] u w fun e u' w' => u' = u ∧ e = .returned (.tuple #[]) ∧ w' = w.setCell ⟨q, 3, none⟩ (.int .i64 n) := by
 have c3 := hq.c3
 have f3 := hq.f 3
 clear hq
 have e1 : ((n + 1 : Nat) : Int) - 1 = n := by omega
 go_enter_d Tryz.func194, Tryz.ntmps194
 go_wp2
 go_end0
 exact ⟨rfl, by first | rfl | (congr 2; omega)⟩
theorem PartB.wrote {w : World} {p : Nat} {u0 u1 : Value} (h : PartB w p u0 u1) (a b : Value) : PartB ((w.setCell ⟨p, 0, none⟩ a).setCell ⟨p, 1, none⟩ b) p a b :=
 heap_setCell_same _ p 1 _ _ b (heap_setCell_same w p 0 _ _ a h)
theorem PartB.set_far {w : World} {p x j : Nat} {u0 u1 : Value} (h : PartB w p u0 u1) (hx : p ≠ x) (u : Value) : PartB (w.setCell ⟨x, j, none⟩ u) p u0 u1 :=
 (Below.heap_setCell w _ u p hx).trans h
theorem WkSt.grownR {q base : Nat} {ao : Option Addr} {cap : Nat} {ls : List Ln} {w w' : World} {at_ boths : Nat} {ks : List ByteArray} {v : Value} {row : Option Nat} (h : WkSt q base ao cap ls w at_ boths ks v) (hg : w.grownBy w' row) (hr : ∀ k, row = some k → q < k ∧ v.ownBlock ≠ some k) : WkSt q base ao cap ls w' at_ boths ks v := by
 have hb : Below q w w' := ⟨hg.os, hg.tape, hg.output, hg.size, fun k hk => hg.block k (by have := h.qb; have := h.bw; omega) (fun e => by have := (hr k e.symm).1; omega)⟩
 exact ⟨h.obj.keep (hg.block q h.obj.lt (fun e => by have := (hr q e.symm).1; omega)), z_b9 h.own (fun k hk => hg.block k (h.row_lt hk).2 (fun e => (hr k e.symm).2 hk)), h.lines.below hb, h.env.keep hb, h.qb, Nat.le_trans h.bw hg.size⟩
def z_ml (r1 r2 : Option (List ByteArray × Bool)) (cl : Bool) : Option (List ByteArray × Bool) :=
 match r1 with
 | none => none
 | some (g1, _) => match r2 with
  | none => none
  | some (g2, _) => if cl = true then none else some (g1 ++ g2, true)
theorem z_mU (q base : Nat) (ao : Option Addr) (cap : Nat) (ls : List Ln) (at_ at2 at3 boths : Nat) (ks : List ByteArray) (res res2 : Option (List ByteArray × Bool)) (ps qs : List Ln) (hat : at2 ≤ 1000) (hat3 : at3 < ls.length) (hl : ls.length ≤ 60) (hcap : ls.length ≤ cap) (hbo : boths ≤ 500)
  (hres0 : ∀ g c, res = some (g, c) → g.length ≤ 1000) (hres1 : ∀ g c, res2 = some (g, c) → g.length ≤ 1000) (h12 : at_ + 1 ≤ at2) (h23 : at2 + 1 ≤ at3)
  (hps : (ls.drop (at_ + 1)).take (at2 - (at_ + 1)) = ps) (hqs : (ls.drop (at2 + 1)).take (at3 - (at2 + 1)) = qs) (hz : ∀ l ∈ ls, LnSz l)
  (H : z_aZ q base ao cap ls 192 at_ at2 (boths + 1) ks res) (H2 : z_aZ q base ao cap ls 192 at2 at3 (boths + 1) ks res2) :
  z_aZ q base ao cap ls 169 at_ (at3 + 1) boths ks (z_ml res res2 (z_a5 ps qs)) := by
 intro w v hs
 obtain ⟨b, off, rfl⟩ := hs.addr hat3
 have HH : Hid (z_aZ q base (some ⟨b, off, none⟩) cap ls 192 at_ at2 (boths + 1) ks res) := H
 have HH2 : Hid (z_aZ q base (some ⟨b, off, none⟩) cap ls 192 at2 at3 (boths + 1) ks res2) := H2
 clear H H2
 have HS : Hid (WkSt q base (some ⟨b, off, none⟩) cap ls w at_ boths ks v) := hs
 have hqlt := hs.obj.lt
 have c1 := hs.obj.c1
 have c3 := hs.obj.c3
 have f3 := hs.obj.f 3
 clear hs
 have hmf : ∀ (fn : Fn) (first cap : Array Value) (w : World), (Instr.makeFunc fn first cap).run Tryz.prog w = .ok (.func fn first cap) w := fun _ _ _ _ => rfl
 go_enter_defers Tryz.func169, Tryz.ntmps169
 go_wp2_with fail
 have e3 : ((boths + 1 : Nat) : Int) = (boths : Int) + 1 := by omega
 obtain ⟨W1, hW1⟩ : ∃ W1, W1 = (((w.setCell ⟨q, 3, none⟩ (.int .i64 ((boths : Int) + 1))).alloc (.cells #[.pointer (some ⟨q, 0, none⟩)] 131)).alloc (.cells #[.slice none 0 0, .bool false] 138)) := ⟨_, rfl⟩
 have hbw : Below (w.setCell ⟨q, 3, none⟩ (.int .i64 ((boths : Int) + 1))).heap.size (w.setCell ⟨q, 3, none⟩ (.int .i64 ((boths : Int) + 1))) W1 := by rw [hW1]; exact ((Below.refl _ _).alloc (Nat.le_refl _) _).alloc (by simp) _
 have hsz0 : (w.setCell ⟨q, 3, none⟩ (.int .i64 ((boths : Int) + 1))).heap.size = w.heap.size := by simp [World.setCell]
 have hs1 : WkSt q base (some ⟨b, off, none⟩) cap ls W1 at_ (boths + 1) ks v := by
  have := (HS.out.set3 (boths + 1))
  rw [e3] at this
  exact this.below hbw
 have hk1 : Wk q v.ownBlock w W1 := (Wk.of_set 3 _).trans (Wk.of_below (row := v.ownBlock) hbw) (.inl rfl)
 have hbx : W1.heap[w.heap.size]? = some (.cells #[.pointer (some ⟨q, 0, none⟩)] 131 (0, 0)) := by
  rw [hW1, Below.heap_alloc _ _ _ (by simp [World.setCell])]
  have := heap_alloc_new (w.setCell ⟨q, 3, none⟩ (.int .i64 ((boths : Int) + 1))) (.cells #[.pointer (some ⟨q, 0, none⟩)] 131)
  rw [hsz0] at this
  exact this
 have hp1 : PartB W1 (w.heap.size + 1) (.slice none 0 0) (.bool false) := by
  rw [hW1]
  have := PartB.new ((w.setCell ⟨q, 3, none⟩ (.int .i64 ((boths : Int) + 1))).alloc (.cells #[.pointer (some ⟨q, 0, none⟩)] 131)) (.slice none 0 0) (.bool false)
  rw [World.size_alloc, hsz0] at this
  exact this
 have hsz1 : W1.heap.size = w.heap.size + 2 := by rw [hW1]; simp [World.setCell]
 rw [← hW1]
 clear hW1 hbw
 refine (HH.out W1 v hs1).mono ?_
 rintro e W2 ⟨hk2, hres⟩
 have hpne : w.heap.size + 1 ≠ q := by omega
 have hpbq : w.heap.size ≠ q := by omega
 have hvp : v.ownBlock ≠ some (w.heap.size + 1) := fun e => by have := (HS.out.row_lt e).2; omega
 have hvb : v.ownBlock ≠ some w.heap.size := fun e => by have := (HS.out.row_lt e).2; omega
 have hp2 := hp1.wk hk2 hpne hvp
 have hbx2 : W2.heap[w.heap.size]? = some (.cells #[.pointer (some ⟨q, 0, none⟩)] 131 (0, 0)) := (hk2.block _ (by omega) hpbq (fun e => hvb e.symm)).trans hbx
 have b0 : W2.cell? ⟨w.heap.size, 0, none⟩ = some (.pointer (some ⟨q, 0, none⟩)) := by rw [cell_of_row _ _ 0 _ _ _ hbx2]; rfl
 obtain ⟨x0, x1, g0, g1⟩ := hp2.cells
 have hp2lt := hp2.lt
 have HK12 : Hid (Wk q v.ownBlock w W2) := hk1.trans hk2 (.inl rfl)
 have HP2 : Hid (PartB W2 (w.heap.size + 1) (.slice none 0 0) (.bool false)) := hp2
 have HBX2 : Hid (W2.heap[w.heap.size]? = some (.cells #[.pointer (some ⟨q, 0, none⟩)] 131 (0, 0))) := hbx2
 have hpp : w.heap.size ≠ w.heap.size + 1 := by omega
 clear hk1 hk2 hp1 hp2 hs1 hbx hbx2 c1 c3 f3
 cases res with
 | none =>
  obtain ⟨er, v', at4, rfl, hec, hs2, hr2⟩ := hres
  obtain ⟨t, x, rfl⟩ := hec.form
  have HS2 : Hid (WkSt q base (some ⟨b, off, none⟩) cap ls W2 at4 (boths + 1) ks v') := hs2
  have HEC : Hid (ErrC (.iface t x)) := hec
  have hv1 := hr2.ne (k := w.heap.size + 1) (by omega) hvp
  clear hs2 hec
  go_wp2
  have hs3 := (HS2.out.wrote hpne hv1 (by omega) (.slice none 0 0) (.bool false))
  have hk3 := z_aC HK12.out (p := w.heap.size + 1) (by omega) (.slice none 0 0) (.bool false)
  have hs4 := hs3.below ((Below.refl _ _).alloc (Nat.le_refl _) (.cells #[.slice none 0 0, .bool false] 138))
  have hk4 := hk3.trans (Wk.of_below (row := v.ownBlock) ((Below.refl _ _).alloc (Nat.le_refl _) (.cells #[.slice none 0 0, .bool false] 138))) (.inl rfl)
  have hp4 : PartB (((W2.setCell ⟨w.heap.size + 1, 0, none⟩ (.slice none 0 0)).setCell ⟨w.heap.size + 1, 1, none⟩ (.bool false)).alloc (.cells #[.slice none 0 0, .bool false] 138)) (w.heap.size + 1) (.slice none 0 0) (.bool false) := (HP2.out.wrote _ _).below ((Below.refl _ _).alloc (Nat.le_refl _) _)
  refine leaves_cons (f := 194) (args := #[.pointer (some ⟨w.heap.size, 0, none⟩)]) (by simp) (by simp [go_sem]) ?_
  refine (z_b3 w.heap.size q _ _ v' boths .returning _ ?_ hs4.obj (by omega)).mono ?_
  ·rw [World.cell?_alloc_past _ _ _ (by simp [World.setCell]; omega), World.cell?_of_block (a := ⟨w.heap.size, 0, none⟩) ((Below.heap_setCell _ _ _ _ hpp).trans (Below.heap_setCell W2 _ _ _ hpp))]
   exact b0
  rintro e u' w'' ⟨rfl, rfl, rfl⟩
  have hp5 := hp4.set_far hpne (j := 3) (.int .i64 boths)
  obtain ⟨r0, r1, _, _⟩ := hp5.cells
  refine ⟨.tuple #[.agg #[.slice none 0 0, .bool false], .iface t x], by simp [results, Tryz.results169, go_sem, r0, r1], ?_⟩
  exact ⟨hk4.trans (Wk.of_set (row := v.ownBlock) 3 _) (.inl rfl), _, v', at4, rfl, HEC.out, hs4.set3 boths, RowTo.refl.trans hr2 (by omega)⟩
 | some r =>
  obtain ⟨g, c⟩ := r
  obtain ⟨gv, v', rfl, hs2, hr2, hg2, hsep⟩ := hres
  have HS2 : Hid (WkSt q base (some ⟨b, off, none⟩) cap ls W2 at2 (boths + 1) ks v') := hs2
  have HG2 : Hid (W2.ownsRow W1.heap.size 9 1 gv g.length (strCells g)) := hg2
  have hgl := hres0 g c rfl
  obtain ⟨go, gc, rfl, hgc⟩ := z_aq hg2
  have HSep1 : Hid (∀ k, (Value.slice go g.length gc).ownBlock = some k → v'.ownBlock ≠ some k) := hsep
  have c1 := hs2.obj.c1
  have hqlt2 := hs2.obj.lt
  have hpb2lt : w.heap.size < W2.heap.size := by omega
  have hv1 := hr2.ne (k := w.heap.size + 1) (by omega) hvp
  have hvb1 := hr2.ne (k := w.heap.size) (by omega) hvb
  have hs3 : WkSt q base (some ⟨b, off, none⟩) cap ls (W2.alloc (.cells #[.slice go g.length gc, .bool c] 138)) at2 (boths + 1) ks v' := hs2.below ((Below.refl _ _).alloc (Nat.le_refl _) _)
  have hy := PartB.new W2 (.slice go g.length gc) (.bool c)
  have hp3 := HP2.out.below ((Below.refl _ _).alloc (Nat.le_refl _) (.cells #[.slice go g.length gc, .bool c] 138))
  have hbx3 : (W2.alloc (.cells #[.slice go g.length gc, .bool c] 138)).heap[w.heap.size]? = some (.cells #[.pointer (some ⟨q, 0, none⟩)] 131 (0, 0)) := (Below.heap_alloc W2 _ _ (by omega)).trans HBX2.out
  have hg3 := HG2.out.alloc (.cells #[.slice go g.length gc, .bool c] 138)
  have hk3 : Wk q v.ownBlock w (W2.alloc (.cells #[.slice go g.length gc, .bool c] 138)) := HK12.out.trans (Wk.of_below (row := v.ownBlock) ((Below.refl _ _).alloc (Nat.le_refl _) _)) (.inl rfl)
  clear hs2 hg2 hsep
  go_wp2_with fail
  obtain ⟨W3, hW3⟩ : ∃ W3, W3 = (W2.alloc (.cells #[.slice go g.length gc, .bool c] 138)) := ⟨_, rfl⟩
  have hsz3 : W3.heap.size = W2.heap.size + 1 := by rw [hW3]; simp
  rw [← hW3] at hs3 hy hp3 hbx3 hg3 hk3 ⊢
  clear hW3 c1 x0 x1 g0 g1 b0
  refine (HH2.out W3 v' hs3).mono ?_
  rintro e W4 ⟨hk4, hres⟩
  have hyq : W2.heap.size ≠ q := by omega
  have hvy : v'.ownBlock ≠ some W2.heap.size := fun e => by have := (HS2.out.row_lt e).2; omega
  have hy4 := hy.wk hk4 hyq hvy
  have hp4 := hp3.wk hk4 hpne hv1
  have hbx4 : W4.heap[w.heap.size]? = some (.cells #[.pointer (some ⟨q, 0, none⟩)] 131 (0, 0)) := (hk4.block _ (by omega) hpbq (fun e => hvb1 e.symm)).trans hbx3
  have hg4 : W4.ownsRow W1.heap.size 9 1 (.slice go g.length gc) g.length (strCells g) := z_b9 hg3 (fun k hk => hk4.block k (hg3.lt k hk).2 (fun e => by have := (hg3.lt k hk).1; omega) (fun e => HSep1.out k hk e.symm))
  have HK4 : Hid (Wk q v.ownBlock w W4) := hk3.trans hk4 (RowTo.refl.trans hr2 (by omega)).or
  have HBX4 : Hid (W4.heap[w.heap.size]? = some (.cells #[.pointer (some ⟨q, 0, none⟩)] 131 (0, 0))) := hbx4
  have HP4 : Hid (PartB W4 (w.heap.size + 1) (.slice none 0 0) (.bool false)) := hp4
  have HY4 : Hid (PartB W4 W2.heap.size (.slice go g.length gc) (.bool c)) := hy4
  have HG4 : Hid (W4.ownsRow W1.heap.size 9 1 (.slice go g.length gc) g.length (strCells g)) := hg4
  have hsz4 := hk4.size
  have hp4lt : w.heap.size + 1 < W4.heap.size := by omega
  clear hk3 hk4 hy hy4 hp3 hp4 hbx3 hbx4 hg3 hg4
  cases res2 with
  | none =>
   obtain ⟨er, v2, at4, rfl, hec, hs4, hr4⟩ := hres
   obtain ⟨t, x, rfl⟩ := hec.form
   have HS4 : Hid (WkSt q base (some ⟨b, off, none⟩) cap ls W4 at4 (boths + 1) ks v2) := hs4
   have HEC : Hid (ErrC (.iface t x)) := hec
   have hv2 := hr4.ne (k := w.heap.size + 1) (by omega) hv1
   obtain ⟨x0, x1, g0, g1⟩ := HP4.out.cells
   have b0 : W4.cell? ⟨w.heap.size, 0, none⟩ = some (.pointer (some ⟨q, 0, none⟩)) := by rw [cell_of_row _ _ 0 _ _ _ HBX4.out]; rfl
   clear hs4 hec
   go_wp2
   have hs5 := (HS4.out.wrote hpne hv2 (by omega) (.slice none 0 0) (.bool false)).below ((Below.refl _ _).alloc (Nat.le_refl _) (.cells #[.slice none 0 0, .bool false] 138))
   have hk5 := (z_aC HK4.out (p := w.heap.size + 1) (by omega) (.slice none 0 0) (.bool false)).trans (Wk.of_below (row := v.ownBlock) ((Below.refl _ _).alloc (Nat.le_refl _) (.cells #[.slice none 0 0, .bool false] 138))) (.inl rfl)
   have hp5 := (HP4.out.wrote (.slice none 0 0) (.bool false)).below ((Below.refl _ _).alloc (Nat.le_refl _) (.cells #[.slice none 0 0, .bool false] 138))
   refine leaves_cons (f := 194) (args := #[.pointer (some ⟨w.heap.size, 0, none⟩)]) (by simp) (by simp [go_sem]) ?_
   refine (z_b3 w.heap.size q _ _ v2 boths .returning _ ?_ hs5.obj (by omega)).mono ?_
   ·rw [World.cell?_alloc_past _ _ _ (by simp [World.setCell]; omega), World.cell?_of_block (a := ⟨w.heap.size, 0, none⟩) ((Below.heap_setCell _ _ _ _ hpp).trans (Below.heap_setCell W4 _ _ _ hpp))]
    exact b0
   rintro e u' w'' ⟨rfl, rfl, rfl⟩
   obtain ⟨r0, r1, _, _⟩ := (hp5.set_far hpne (j := 3) (.int .i64 boths)).cells
   refine ⟨.tuple #[.agg #[.slice none 0 0, .bool false], .iface t x], by simp [results, Tryz.results169, go_sem, r0, r1], ?_⟩
   exact ⟨hk5.trans (Wk.of_set (row := v.ownBlock) 3 _) (.inl rfl), _, v2, at4, rfl, HEC.out, hs5.set3 boths, (RowTo.refl.trans hr2 (by omega)).trans hr4 (by omega)⟩
  | some r =>
   obtain ⟨gg, c2⟩ := r
   obtain ⟨gv2, v2, rfl, hs4, hr4, hg4, hsep4⟩ := hres
   have hggl := hres1 gg c2 rfl
   obtain ⟨g2o, g2c, rfl, hg2c⟩ := z_aq hg4
   have HSep1' : Hid (∀ k, (Value.slice go g.length gc).ownBlock = some k → v2.ownBlock ≠ some k) := fun k hk hv => by
    rcases hr4 with h | h
    ·exact HSep1.out k hk (h ▸ hv)
    ·have h1 := h k hv
     have h2 := (HG2.out.lt k hk).2
     omega
   have HSep4 : Hid (∀ k, (Value.slice g2o gg.length g2c).ownBlock = some k → v2.ownBlock ≠ some k) := hsep4
   have hrt : RowTo w v v2 := (RowTo.refl.trans hr2 (by omega)).trans hr4 (by omega)
   have HRT : Hid (RowTo w v v2) := hrt
   have hv2 := hr4.ne (k := w.heap.size + 1) (by omega) hv1
   have hvb2 := hr4.ne (k := w.heap.size) (by omega) hvb1
   have b0 : W4.cell? ⟨w.heap.size, 0, none⟩ = some (.pointer (some ⟨q, 0, none⟩)) := by rw [cell_of_row _ _ 0 _ _ _ HBX4.out]; rfl
   have hpb4lt : w.heap.size < W4.heap.size := by omega
   have HB5 : Hid (Below W4.heap.size W4 (W4.alloc (.cells #[.slice g2o gg.length g2c, .bool c2] 138))) := (Below.refl _ _).alloc (Nat.le_refl _) _
   have hz5 : PartB (W4.alloc (.cells #[.slice g2o gg.length g2c, .bool c2] 138)) W4.heap.size (.slice g2o gg.length g2c) (.bool c2) := PartB.new _ _ _
   have HZ5 : Hid (PartB (W4.alloc (.cells #[.slice g2o gg.length g2c, .bool c2] 138)) W4.heap.size (.slice g2o gg.length g2c) (.bool c2)) := hz5
   have HS5 : Hid (WkSt q base (some ⟨b, off, none⟩) cap ls (W4.alloc (.cells #[.slice g2o gg.length g2c, .bool c2] 138)) at3 (boths + 1) ks v2) := hs4.below HB5.out
   have HGG : Hid (W4.ownsRow W3.heap.size 9 1 (.slice g2o gg.length g2c) gg.length (strCells gg)) := hg4
   have hbw4 := hs4.bw
   have hqlt4 := hs4.obj.lt
   have i0 : (0 : Int) ≤ (at_ : Int) + 1 := by omega
   have i1 : (at_ : Int) + 1 ≤ at2 := by omega
   have i2 : (at2 : Int) ≤ cap := by omega
   have i3 : (at_ : Int) + 1 < cap := by omega
   have i4 : (0 : Int) ≤ (at2 : Int) + 1 := by omega
   have i5 : (at2 : Int) + 1 ≤ at3 := by omega
   have i6 : (at3 : Int) ≤ cap := by omega
   have i7 : (at2 : Int) + 1 < cap := by omega
   have t1 : ((at_ : Int) + 1).toNat = at_ + 1 := by omega
   have t2 : ((at2 : Int) + 1).toNat = at2 + 1 := by omega
   have n1 : ¬ cap = at_ + 1 := by omega
   have n2 : ¬ cap = at2 + 1 := by omega
   have u1 : IntKind.i64.wrap ((at_ : Int) + 1) = (at_ : Int) + 1 := wrap_small _ (by omega) (by omega)
   have u2 : IntKind.i64.wrap ((at2 : Int) + 1) = (at2 : Int) + 1 := wrap_small _ (by omega) (by omega)
   clear hs4 hr2 hr4 hg4 hsep4 hrt hz5
   go_wp2_with fail
   obtain ⟨W5, hW5⟩ : ∃ W5, W5 = (W4.alloc (.cells #[.slice g2o gg.length g2c, .bool c2] 138)) := ⟨_, rfl⟩
   have hsz5 : W5.heap.size = W4.heap.size + 1 := by rw [hW5]; simp
   rw [← hW5] at HB5 HZ5 HS5 ⊢
   clear hW5
   have b5 := (HB5.out.cell (p := ⟨w.heap.size, 0, none⟩) hpb4lt).trans b0
   have q0 := HS5.out.obj.c0
   have q1 := HS5.out.obj.c1
   clear b0
   have HLn : Hid (LinesAt W5.heap.size W5 (some ⟨b, off, none⟩) ls) := HS5.out.linesW
   have hpl : ps.length = at2 - (at_ + 1) := by rw [← hps]; simp; omega
   have hql : qs.length = at3 - (at2 + 1) := by rw [← hqs]; simp; omega
   have hct := fun (W : World) (hb : Below W5.heap.size W5 W) => z_mg (some ⟨b, off + (at_ + 1) * 5, none⟩) (some ⟨b, off + (at2 + 1) * 5, none⟩) (cap - (at_ + 1)) (cap - (at2 + 1)) ps qs W (by omega) (by omega) (fun l hl => hz l (by rw [← hps] at hl; exact List.mem_of_mem_drop (List.mem_of_mem_take hl))) (fun l hl => hz l (by rw [← hqs] at hl; exact List.mem_of_mem_drop (List.mem_of_mem_take hl))) (by rw [← hps]; exact ((HLn.out.later hb).drop _).take _) (by rw [← hqs]; exact ((HLn.out.later hb).drop _).take _)
   rw [hpl, hql] at hct
   have HCT : Hid (∀ (W : World), Below W5.heap.size W5 W → Calls Tryz.prog 195 #[.slice (some ⟨b, off + (at_ + 1) * 5, none⟩) (at2 - (at_ + 1)) (cap - (at_ + 1)), .slice (some ⟨b, off + (at2 + 1) * 5, none⟩) (at3 - (at2 + 1)) (cap - (at2 + 1))] W fun e w' => e = .returned (.bool (z_a5 ps qs)) ∧ Below W.heap.size W w') := hct
   clear hct
   go_region_held3 (fun w' => w'.cell? ⟨w.heap.size, 0, none⟩ = some (.pointer (some ⟨q, 0, none⟩)) ∧ w'.cell? ⟨q, 0, none⟩ = some (.slice (some ⟨b, off, none⟩) ls.length cap) ∧ w'.cell? ⟨q, 1, none⟩ = some (.int .i64 at3)) (first | (go_keep; done) | (go_split_ands; refine ⟨?_, ?_, ?_⟩ <;> (rw [hb6.cell (by simp; omega)]; assumption)))
    (first | (go_at_call 195; refine (HCT.out _ ((Below.refl _ _).drew)).mono ?_; rintro e W6 ⟨rfl, hb6⟩))
   have hb6' : Below W5.heap.size W5 W6 := (show Below W5.heap.size W5 W5.drew from (Below.refl _ _).drew).trans hb6
   have HS6 : Hid (WkSt q base (some ⟨b, off, none⟩) cap ls W6 at3 (boths + 1) ks v2) := HS5.out.below hb6'
   have hb46 : Below W4.heap.size W4 W6 := HB5.out.trans (hb6'.mono (by omega))
   have HK6 : Hid (Wk q v.ownBlock w W6) := HK4.out.trans (Wk.of_below (row := v.ownBlock) hb46) (.inl rfl)
   have hp6 := HP4.out.below hb46
   have HP6 : Hid (PartB W6 (w.heap.size + 1) (.slice none 0 0) (.bool false)) := hp6
   have hy6 := HY4.out.below hb46
   have hz6 := HZ5.out.below hb6'
   have HG6 : Hid (W6.ownsRow W1.heap.size 9 1 (.slice go g.length gc) g.length (strCells g)) := z_ax HG4.out hb46
   have HGG6 : Hid (W6.ownsRow W3.heap.size 9 1 (.slice g2o gg.length g2c) gg.length (strCells gg)) := z_ax HGG.out hb46
   have HBX6 : Hid (W6.heap[w.heap.size]? = some (.cells #[.pointer (some ⟨q, 0, none⟩)] 131 (0, 0))) := (hb46.block _ hpb4lt).trans HBX4.out
   have b6 : W6.cell? ⟨w.heap.size, 0, none⟩ = some (.pointer (some ⟨q, 0, none⟩)) := by rw [cell_of_row _ _ 0 _ _ _ HBX6.out]; rfl
   obtain ⟨x0, x1, k0, k1⟩ := hp6.cells
   obtain ⟨y0, y1, _, _⟩ := hy6.cells
   obtain ⟨z0, z1, _, _⟩ := hz6.cells
   have a1 := HS6.out.obj.c1
   have af1 := HS6.out.obj.f 1
   have hqlt6 := HS6.out.obj.lt
   have hsz6 := hb46.size
   have hp6lt := hp6.lt
   clear hb6 hb6' hb46 hp6 hy6 hz6 b5 q0 q1 HLn HCT HB5 HZ5 HS5
   cases hcl : z_a5 ps qs with
   | true =>
    have HF : Hid (z_ml (some (g, c)) (some (gg, c2)) (z_a5 ps qs) = none) := by show _ = _; rw [hcl]; rfl
    go_wp2
    have hs7 := HS6.out.wrote hpne hv2 (by omega) (.slice none 0 0) (.bool false)
    have hk7 := z_aC HK6.out (p := w.heap.size + 1) (by omega) (.slice none 0 0) (.bool false)
    have hp7 := HP6.out.wrote (.slice none 0 0) (.bool false)
    refine leaves_cons (f := 194) (args := #[.pointer (some ⟨w.heap.size, 0, none⟩)]) (by simp) (by simp [go_sem]) ?_
    refine (z_b3 w.heap.size q _ _ v2 boths .returning _ ?_ hs7.obj (by omega)).mono ?_
    ·rw [World.cell?_of_block (a := ⟨w.heap.size, 0, none⟩) ((Below.heap_setCell _ _ _ _ hpp).trans (Below.heap_setCell W6 _ _ _ hpp))]
     exact b6
    rintro e u' w'' ⟨rfl, rfl, rfl⟩
    obtain ⟨r0, r1, _, _⟩ := (hp7.set_far hpne (j := 3) (.int .i64 boths)).cells
    refine ⟨.tuple #[.agg #[.slice none 0 0, .bool false], .iface 96 (.agg #[.int .i64 ((at2 : Int) + 1), .int .i64 5])], by simp [results, Tryz.results169, go_sem, r0, r1], ?_⟩
    rw [HF.out]
    exact ⟨hk7.trans (Wk.of_set (row := v.ownBlock) 3 _) (.inl rfl), _, v2, at3, rfl, ErrC.base _ ⟨_, _, rfl, by decide⟩, hs7.set3 boths, HRT.out⟩
   | false =>
    have HF : Hid (z_ml (some (g, c)) (some (gg, c2)) (z_a5 ps qs) = some (g ++ gg, true)) := by show _ = _; rw [hcl]; rfl
    have e5 : ((at3 + 1 : Nat) : Int) = (at3 : Int) + 1 := by omega
    have hs7 := HS6.out.set1 (at3 + 1)
    have hk7 := HK6.out.trans (Wk.of_set (row := v.ownBlock) 1 (.int .i64 ((at3 + 1 : Nat) : Int))) (.inl rfl)
    rw [e5] at hs7 hk7
    have gq1 : (Value.slice go g.length gc).ownBlock ≠ some q := fun e => by have := (HG6.out.lt _ e).1; omega
    have gq2 : (Value.slice g2o gg.length g2c).ownBlock ≠ some q := fun e => by have := (HGG6.out.lt _ e).1; omega
    have HG7 : Hid ((W6.setCell ⟨q, 1, none⟩ (.int .i64 ((at3 : Int) + 1))).ownsRow W1.heap.size 9 1 (.slice go g.length gc) g.length (strCells g)) := z_ad HG6.out gq1 _
    have HGG7 : Hid ((W6.setCell ⟨q, 1, none⟩ (.int .i64 ((at3 : Int) + 1))).ownsRow W3.heap.size 9 1 (.slice g2o gg.length g2c) gg.length (strCells gg)) := z_ad HGG6.out gq2 _
    have HS7 : Hid (WkSt q base (some ⟨b, off, none⟩) cap ls (W6.setCell ⟨q, 1, none⟩ (.int .i64 ((at3 : Int) + 1))) (at3 + 1) (boths + 1) ks v2) := hs7
    have HK7 : Hid (Wk q v.ownBlock w (W6.setCell ⟨q, 1, none⟩ (.int .i64 ((at3 : Int) + 1)))) := hk7
    have HP7 : Hid (PartB (W6.setCell ⟨q, 1, none⟩ (.int .i64 ((at3 : Int) + 1))) (w.heap.size + 1) (.slice none 0 0) (.bool false)) := HP6.out.set_far hpne _
    clear hs7 hk7
    have hbq1 : W2.heap.size ≠ q := hyq
    have hbq2 : W4.heap.size ≠ q := by omega
    have hrow : ∀ k, (Value.slice go g.length gc).ownBlock = some k → q < k ∧ v2.ownBlock ≠ some k := fun k hk => ⟨by have := (HG6.out.lt _ hk).1; omega, HSep1'.out k hk⟩
    have hrowp : (Value.slice go g.length gc).ownBlock ≠ some (w.heap.size + 1) := fun e => by have := (HG6.out.lt _ e).1; omega
    have hrowb : (Value.slice go g.length gc).ownBlock ≠ some w.heap.size := fun e => by have := (HG6.out.lt _ e).1; omega
    obtain ⟨W7, hW7⟩ : ∃ W7, W7 = (W6.setCell ⟨q, 1, none⟩ (.int .i64 ((at3 : Int) + 1))) := ⟨_, rfl⟩
    have hsz7 : W7.heap.size = W6.heap.size := by rw [hW7]; simp [World.setCell]
    have HBX7 : Hid (W7.heap[w.heap.size]? = some (.cells #[.pointer (some ⟨q, 0, none⟩)] 131 (0, 0))) := by
     show _ = _
     rw [hW7, Below.heap_setCell _ _ _ _ hpbq]; exact HBX6.out
    have HW7 : Hid (W7 = (W6.setCell ⟨q, 1, none⟩ (.int .i64 ((at3 : Int) + 1)))) := hW7
    rw [← hW7] at HG7 HGG7 HS7 HK7 HP7
    clear hW7
    have FIN : Hid (∀ (W8 : World) (vo : Option Addr) (vc : Nat), W8.ownsRow W1.heap.size 9 1 (.slice vo (g.length + gg.length) vc) (g.length + gg.length) (strCells g ++ strCells gg) → W7.grownBy W8 (Value.slice go g.length gc).ownBlock → ((Value.slice vo (g.length + gg.length) vc).ownBlock = (Value.slice go g.length gc).ownBlock ∨ (Value.slice vo (g.length + gg.length) vc).ownBlock = some W7.heap.size) →
      PartB W8 (w.heap.size + 1) (.slice none 0 0) (.bool false) ∧ W8.cell? ⟨w.heap.size, 0, none⟩ = some (.pointer (some ⟨q, 0, none⟩)) ∧
      ∀ W9, W9 = ((W8.setCell ⟨w.heap.size + 1, 0, none⟩ (.slice vo (g.length + gg.length) vc)).setCell ⟨w.heap.size + 1, 1, none⟩ (.bool true)) → WkSt q base (some ⟨b, off, none⟩) cap ls W9 (at3 + 1) (boths + 1) ks v2 ∧ W9.cell? ⟨w.heap.size, 0, none⟩ = some (.pointer (some ⟨q, 0, none⟩)) ∧
       PartB (W9.setCell ⟨q, 3, none⟩ (.int .i64 boths)) (w.heap.size + 1) (.slice vo (g.length + gg.length) vc) (.bool true) ∧
       PartEnd q base (some ⟨b, off, none⟩) cap ls (at3 + 1) boths ks v w (some (g ++ gg, true)) (.returned (.tuple #[.agg #[.slice vo (g.length + gg.length) vc, .bool true], .nilIface])) (W9.setCell ⟨q, 3, none⟩ (.int .i64 boths))) := by
     intro W8 vo vc ho8 hg8 hat8
     have hp8 : PartB W8 (w.heap.size + 1) (.slice none 0 0) (.bool false) := HP7.out.keep (hg8.block _ HP7.out.lt (fun e => hrowp e.symm))
     have hx8 : W8.heap[w.heap.size]? = some (.cells #[.pointer (some ⟨q, 0, none⟩)] 131 (0, 0)) := (hg8.block _ (by omega) (fun e => hrowb e.symm)).trans HBX7.out
     have hs8 := HS7.out.grownR hg8 hrow
     have hk8 := HK7.out.trans (Wk.of_grown (q := q) hg8) (.inr fun k hk => by have := (HG6.out.lt _ hk).1; omega)
     refine ⟨hp8, by rw [cell_of_row _ _ 0 _ _ _ hx8]; rfl, ?_⟩
     rintro W9 rfl
     have hs9 := hs8.wrote hpne hv2 (by omega) (.slice vo (g.length + gg.length) vc) (.bool true)
     have hk9 := z_aC hk8 (p := w.heap.size + 1) (by omega) (.slice vo (g.length + gg.length) vc) (.bool true)
     have hvop : (Value.slice vo (g.length + gg.length) vc).ownBlock ≠ some (w.heap.size + 1) := fun e => by have := (ho8.lt _ e).1; omega
     have hvoq : (Value.slice vo (g.length + gg.length) vc).ownBlock ≠ some q := fun e => by have := (ho8.lt _ e).1; omega
     have ho9 := z_ad (z_b ho8 hvop (.slice vo (g.length + gg.length) vc) (.bool true)) hvoq (j := 3) (.int .i64 boths)
     refine ⟨hs9, ?_, (hp8.wrote _ _).set_far hpne _, hk9.trans (Wk.of_set (row := v.ownBlock) 3 _) (.inl rfl), _, v2, rfl, hs9.set3 boths, HRT.out, ?_, ?_⟩
     ·rw [World.cell?_of_block (a := ⟨w.heap.size, 0, none⟩) ((Below.heap_setCell _ _ _ _ hpp).trans (Below.heap_setCell W8 _ _ _ hpp)), cell_of_row _ _ 0 _ _ _ hx8]; rfl
     ·rw [List.length_append, show strCells (g ++ gg) = strCells g ++ strCells gg by simp [strCells]]
      exact z_bh ho9 (by omega)
     ·intro k hk hv
      rcases hat8 with h | h
      ·exact HSep1'.out k (h ▸ hk) hv
      ·rw [h] at hk
       have h1 := (HS7.out.row_lt hv).2
       cases hk; omega
    cases g2o with
    | none =>
     have hgg0 : gg = [] := by
      rcases HGG6.out.2 with ⟨_, h⟩ | ⟨_, _, _, h, _⟩
      ·exact List.length_eq_zero_iff.1 h
      ·cases h
     subst hgg0
     have F := FIN.out W7 go gc (by simpa [strCells] using HG7.out) z_bW (.inl rfl)
     rw [HW7.out] at F
     obtain ⟨_, _, fin⟩ := F
     have FN : Hid (∀ W9, W9 = (((W6.setCell ⟨q, 1, none⟩ (.int .i64 ((at3 : Int) + 1))).setCell ⟨w.heap.size + 1, 0, none⟩ (.slice go (g.length + ([] : List ByteArray).length) gc)).setCell ⟨w.heap.size + 1, 1, none⟩ (.bool true)) → _) := fin
     clear fin FIN
     simp only [List.length_nil, Nat.add_zero] at FN
     simp only [List.length_nil]
     have hgo : (go = none ∧ g = [] ∧ gc = 0) ∨ ∃ g9, go = some ⟨g9, 0, none⟩ := by
      rcases HG6.out.2 with ⟨h, h'⟩ | ⟨g9, _, _, h, _⟩
      ·simp only [Value.slice.injEq] at h; exact .inl ⟨h.1, List.length_eq_zero_iff.1 h', h.2.2⟩
      ·simp only [Value.slice.injEq] at h; exact .inr ⟨g9, h.1⟩
     rcases hgo with ⟨rfl, rfl, rfl⟩ | ⟨g9, rfl⟩
     ·simp only [List.length_nil] at FN
      try simp only [List.length_nil]
      go_wp2
      obtain ⟨hs9, hb9, hp9, hend⟩ := FN.out _ rfl
      refine leaves_cons (f := 194) (args := #[.pointer (some ⟨w.heap.size, 0, none⟩)]) (by simp) (by simp [go_sem]) ?_
      refine (z_b3 w.heap.size q _ _ v2 boths .returning _ hb9 hs9.obj (by omega)).mono ?_
      rintro e u' w'' ⟨rfl, rfl, rfl⟩
      obtain ⟨r0, r1, _, _⟩ := hp9.cells
      refine ⟨.tuple #[.agg #[.slice none 0 0, .bool true], .nilIface], by simp [results, Tryz.results169, go_sem, r0, r1], ?_⟩
      rw [HF.out]
      exact hend
     ·have FN' := FN
      try simp only [List.length_nil]
      go_wp2
      obtain ⟨hs9, hb9, hp9, hend⟩ := FN.out _ rfl
      refine leaves_cons (f := 194) (args := #[.pointer (some ⟨w.heap.size, 0, none⟩)]) (by simp) (by simp [go_sem]) ?_
      refine (z_b3 w.heap.size q _ _ v2 boths .returning _ hb9 hs9.obj (by omega)).mono ?_
      rintro e u' w'' ⟨rfl, rfl, rfl⟩
      obtain ⟨r0, r1, _, _⟩ := hp9.cells
      refine ⟨.tuple #[.agg #[.slice (some ⟨g9, 0, none⟩) g.length gc, .bool true], .nilIface], by simp [results, Tryz.results169, go_sem, r0, r1], ?_⟩
      rw [HF.out]
      exact hend
    | some ad =>
     have HG7w : Hid ((W6.setCell ⟨q, 1, none⟩ (.int .i64 ((at3 : Int) + 1))).ownsRow W1.heap.size 9 1 (.slice go g.length gc) g.length (strCells g)) := by rw [← HW7.out]; exact HG7
     have FIN' := FIN.out
     rw [HW7.out] at FIN'
     have FN := FIN'
     have hnews : Hid (∀ j u, (strCells gg)[j]? = some u → (W6.setCell ⟨q, 1, none⟩ (.int .i64 ((at3 : Int) + 1))).cell? (ad.add j) = some u) := by
      have h := HGG7.out
      rw [HW7.out] at h
      rcases h.2 with ⟨h, _⟩ | ⟨g', cap', cur, h, _⟩
      ·cases h
      ·cases h
       exact fun j u hj => World.ownsRow.cells HGG7.out (g := g') rfl j u hj |> fun hc => by rw [← HW7.out]; exact hc
     have hFN : Hid (∀ (W8 : World) (vo : Option Addr) (vc : Nat), _) := FN
     clear FIN FIN' FN
     have hb8 : W1.heap.size ≤ (W6.setCell ⟨q, 1, none⟩ (.int .i64 ((at3 : Int) + 1))).heap.size := by rw [← HW7.out]; omega
     obtain ⟨i0', hi0, hz0, hz1, hz2⟩ := info_parts Tryz.infoStr
     go_wp2_with (at_builtin; refine wpList_append_own_at _ rfl _ _ 45 rfl W1.heap.size 9 i0' (.string ByteArray.empty) 1 16 Tryz.underlying45 hi0 hz0 hz1 hz2 rfl (by decide) _ _ _ rfl HG7w.out ad gg.length g2c (strCells gg) rfl (by simp [strCells]) hnews.out (by intro u hu; simp [strCells] at hu; obtain ⟨a, _, rfl⟩ := hu; rfl) (by unfold maxLen; omega) (by omega) hb8 ?_; intro v8 w8 hown8 hgrow8 hnil8 hat8; obtain ⟨vo, vc, rfl, hvc⟩ := z_aq hown8; have F := hFN.out w8 vo vc hown8 hgrow8 hat8; have HFI : Hid _ := F.2.2; obtain ⟨x8, x9, k8, k9⟩ := F.1.cells; have b8 := F.2.1; clear F hown8 hgrow8 hnil8 hat8)
     obtain ⟨hs9, hb9, hp9, hend⟩ := HFI.out _ rfl
     refine leaves_cons (f := 194) (args := #[.pointer (some ⟨w.heap.size, 0, none⟩)]) (by simp) (by simp [go_sem]) ?_
     refine (z_b3 w.heap.size q _ _ v2 boths .returning _ hb9 hs9.obj (by omega)).mono ?_
     rintro e u' w'' ⟨rfl, rfl, rfl⟩
     obtain ⟨r0, r1, _, _⟩ := hp9.cells
     refine ⟨.tuple #[.agg #[.slice vo (g.length + gg.length) vc, .bool true], .nilIface], by simp [results, Tryz.results169, go_sem, r0, r1], ?_⟩
     rw [HF.out]
     exact hend
end Go.Proofs.YtlbjjbolbopfmaaGreatDoor
