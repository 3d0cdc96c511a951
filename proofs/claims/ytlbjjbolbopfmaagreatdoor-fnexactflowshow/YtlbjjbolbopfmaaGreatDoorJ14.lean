import Derived.Test.YtlbjjbolbopfmaaGreatDoorJ11
import Derived.Test.YtlbjjbolbopfmaaGreatDoorJ09
namespace Go.Proofs.YtlbjjbolbopfmaaGreatDoor
set_option maxHeartbeats 4000000
set_option maxRecDepth 1000000
set_option linter.unusedVariables false
section
open Go.RowKit
theorem WkSt.kind {q base b off : Nat} {cap : Nat} {ls : List Ln} {w : World} {at_ boths : Nat} {ks : List ByteArray} {v : Value} (h : WkSt q base (some ⟨b, off, none⟩) cap ls w at_ boths ks v) {n : Nat} (hn : n < ls.length) : w.cell? ⟨b, off + n * 5, none⟩ = some (.int .i64 ls[n].1) ∧ b < q := by
 obtain ⟨b', off', e, hB, _, _, _, q0, _⟩ := h.lines n hn
 cases e
 exact ⟨q0, hB⟩
theorem WkSt.addr {q base : Nat} {ao : Option Addr} {cap : Nat} {ls : List Ln} {w : World} {at_ boths : Nat} {ks : List ByteArray} {v : Value} (h : WkSt q base ao cap ls w at_ boths ks v) {n : Nat} (hn : n < ls.length) : ∃ b off, ao = some ⟨b, off, none⟩ := by
 obtain ⟨b', off', e, _⟩ := h.lines n hn
 exact ⟨b', off', e⟩
def PartB (w : World) (p : Nat) (u0 u1 : Value) : Prop := w.heap[p]? = some (.cells #[u0, u1] 138 (0, 0))
theorem PartB.lt {w : World} {p : Nat} {u0 u1 : Value} (h : PartB w p u0 u1) : p < w.heap.size := (Array.getElem?_eq_some_iff.1 h).1
theorem PartB.cells {w : World} {p : Nat} {u0 u1 : Value} (h : PartB w p u0 u1) : w.cell? ⟨p, 0, none⟩ = some u0 ∧ w.cell? ⟨p, 1, none⟩ = some u1 ∧ w.frozen? ⟨p, 0, none⟩ = false ∧ w.frozen? ⟨p, 1, none⟩ = false :=
 ⟨by rw [cell_of_row _ _ 0 _ _ _ h]; rfl, by rw [cell_of_row _ _ 1 _ _ _ h]; rfl, frozen_of_row _ _ 0 _ _ h, frozen_of_row _ _ 1 _ _ h⟩
theorem PartB.keep {w w' : World} {p : Nat} {u0 u1 : Value} (h : PartB w p u0 u1) (hb : w'.heap[p]? = w.heap[p]?) : PartB w' p u0 u1 := hb.trans h
theorem PartB.below {w w' : World} {p : Nat} {u0 u1 : Value} (h : PartB w p u0 u1) (hb : Below w.heap.size w w') : PartB w' p u0 u1 := h.keep (hb.block p h.lt)
theorem PartB.wk {w w' : World} {p q : Nat} {u0 u1 : Value} {row : Option Nat} (h : PartB w p u0 u1) (hk : Wk q row w w') (hq : p ≠ q) (hr : row ≠ some p) : PartB w' p u0 u1 := h.keep (hk.block p h.lt hq (fun e => hr e.symm))
theorem PartB.new (w : World) (u0 u1 : Value) : PartB (w.alloc (.cells #[u0, u1] 138)) w.heap.size u0 u1 := heap_alloc_new _ _
theorem z_ip (w : World) (a0 a1 b0 b1 : Value) (n : Nat) : Below w.heap.size w (((w.alloc (.cells #[a0, a1] 138)).alloc (.cells #[b0, b1] 138)).drewN n) ∧ (((w.alloc (.cells #[a0, a1] 138)).alloc (.cells #[b0, b1] 138)).drewN n).heap.size = w.heap.size + 2 ∧
  PartB (((w.alloc (.cells #[a0, a1] 138)).alloc (.cells #[b0, b1] 138)).drewN n) w.heap.size a0 a1 ∧ PartB (((w.alloc (.cells #[a0, a1] 138)).alloc (.cells #[b0, b1] 138)).drewN n) (w.heap.size + 1) b0 b1 := by
 refine ⟨z_aa (((Below.refl _ _).alloc (Nat.le_refl _) _).alloc (by simp) _) n, by show (World.alloc (World.alloc w _) _).heap.size = _; simp, ?_, ?_⟩
 ·show (World.alloc (World.alloc w _) _).heap[w.heap.size]? = _
  rw [Below.heap_alloc _ _ _ (by simp)]
  exact heap_alloc_new _ _
 ·show (World.alloc (World.alloc w _) _).heap[w.heap.size + 1]? = _
  have := heap_alloc_new (w.alloc (.cells #[a0, a1] 138)) (.cells #[b0, b1] 138)
  rw [World.size_alloc] at this
  exact this
def z_mO (res : Option (List ByteArray × Bool)) : Option (List ByteArray × Bool) := res.map fun _ => ([], true)
theorem z_kw (q base : Nat) (ao : Option Addr) (cap : Nat) (ls : List Ln) (at_ at2 boths : Nat) (ks : List ByteArray) (res : Option (List ByteArray × Bool)) (hat : at2 ≤ 1000) (hl : ls.length ≤ 60) (h2 : at2 < ls.length) (hk11 : ls[at2].1 = 11) (hres0 : ∀ g c, res = some (g, c) → g.length ≤ 1000)
  (H : z_aZ q base ao cap ls 192 at_ at2 boths ks res) : z_aZ q base ao cap ls 167 at_ (at2 + 1) boths ks (z_mO res) := by
 intro w v hs
 have HH : Hid (z_aZ q base ao cap ls 192 at_ at2 boths ks res) := H
 clear H
 obtain ⟨b, off, rfl⟩ := hs.addr h2
 have HS : Hid (WkSt q base (some ⟨b, off, none⟩) cap ls w at_ boths ks v) := hs
 have hqlt := hs.obj.lt
 clear hs
 go_enter Tryz.func167, Tryz.ntmps167
 go_wp2_with fail
 obtain ⟨W1, hW1⟩ : ∃ W1, W1 = w.alloc (.cells #[.slice none 0 0, .bool false] 138) := ⟨_, rfl⟩
 have hs1 : WkSt q base (some ⟨b, off, none⟩) cap ls W1 at_ boths ks v := by rw [hW1]; exact HS.out.below ((Below.refl _ _).alloc (Nat.le_refl _) _)
 have hk1 : Wk q v.ownBlock w W1 := by rw [hW1]; exact Wk.of_below ((Below.refl _ _).alloc (Nat.le_refl _) _)
 have hp1 : W1.heap[w.heap.size]? = some (.cells #[.slice none 0 0, .bool false] 138 (0, 0)) := by rw [hW1]; exact heap_alloc_new _ _
 have hsz1 : W1.heap.size = w.heap.size + 1 := by rw [hW1]; simp
 rw [← hW1]
 clear hW1
 refine (HH.out W1 v hs1).mono ?_
 rintro e W2 ⟨hk2, hres⟩
 have hpne : w.heap.size ≠ q := by omega
 have hvp : v.ownBlock ≠ some w.heap.size := fun e => by have := (HS.out.row_lt e).2; omega
 obtain ⟨hp2, x0, x1, g0, g1, hp2lt⟩ := z_hF hp1 hk2 hpne hvp
 have HK12 : Hid (Wk q v.ownBlock w W2) := hk1.trans hk2 (.inl rfl)
 clear hk1 hk2 hp1 hp2 hs1
 cases res with
 | none =>
  obtain ⟨er, v', at3, rfl, hec, hs2, hr2⟩ := hres
  obtain ⟨t, x, rfl⟩ := hec.form
  have HS2 : Hid (WkSt q base (some ⟨b, off, none⟩) cap ls W2 at3 boths ks v') := hs2
  have HEC : Hid (ErrC (.iface t x)) := hec
  clear hs2 hec
  go_wp2
  refine bodyPost_ret (v := .tuple #[.agg #[.slice none 0 0, .bool false], .iface t x]) (by simp [results, Tryz.results167, go_sem, x0, x1, hp2lt]) rfl ?_
  have hv' := hr2.ne (by omega) hvp
  have hk3 := z_aC HK12.out (Nat.le_refl _) (.slice none 0 0) (.bool false)
  have hs3 := HS2.out.wrote hpne hv' (by omega) (.slice none 0 0) (.bool false)
  refine ⟨hk3.trans (Wk.of_below (row := v.ownBlock) ((Below.refl _ _).alloc (Nat.le_refl _) _)) (.inl rfl), _, v', at3, rfl, HEC.out, hs3.below ((Below.refl _ _).alloc (Nat.le_refl _) _), RowTo.refl.trans hr2 (by omega)⟩
 | some r =>
  obtain ⟨g, c⟩ := r
  obtain ⟨gv, v', rfl, hs2, hr2, hg2, hsep⟩ := hres
  have HS2 : Hid (WkSt q base (some ⟨b, off, none⟩) cap ls W2 at2 boths ks v') := hs2
  have HG2 : Hid (W2.ownsRow W1.heap.size 9 1 gv g.length (strCells g)) := hg2
  have hgl := hres0 g c rfl
  obtain ⟨go, gc, rfl, hgc⟩ := z_aq hg2
  have c0 := hs2.obj.c0
  have c1 := hs2.obj.c1
  have f1 := hs2.obj.f 1
  have hqlt2 := hs2.obj.lt
  obtain ⟨ck, hbq⟩ := hs2.kind h2
  rw [hk11] at ck
  have hbl : b < W2.heap.size := by omega
  clear hs2 hg2 hsep
  go_wp2
  go_quiet (fail)
  obtain ⟨hb3, hsz3, hy, hz⟩ := z_ip W2 (.slice go g.length gc) (.bool c) (.slice none 0 0) (.bool true) nq
  obtain ⟨W3, hW3⟩ : ∃ W3, W3 = (((W2.alloc (.cells #[.slice go g.length gc, .bool c] 138)).alloc (.cells #[.slice none 0 0, .bool true] 138)).drewN nq) := ⟨_, rfl⟩
  rw [← hW3] at hb3 hsz3 hy hz ⊢
  clear hW3 c0 ck
  have hs3 := HS2.out.below hb3
  have HS3 : Hid (WkSt q base (some ⟨b, off, none⟩) cap ls W3 at2 boths ks v') := hs3
  have c1 := hs3.obj.c1
  have f1 := hs3.obj.f 1
  obtain ⟨y0, y1, _, _⟩ := hy.cells
  obtain ⟨z0, z1, _, _⟩ := hz.cells
  have x0 := (hb3.cell (p := ⟨w.heap.size, 0, none⟩) hp2lt).trans x0
  have x1 := (hb3.cell (p := ⟨w.heap.size, 1, none⟩) hp2lt).trans x1
  have g0 := (hb3.frozen (p := ⟨w.heap.size, 0, none⟩) hp2lt).trans g0
  have g1 := (hb3.frozen (p := ⟨w.heap.size, 1, none⟩) hp2lt).trans g1
  have hp3lt : w.heap.size < W3.heap.size := by omega
  have HK3 : Hid (Wk q v.ownBlock w W3) := HK12.out.trans (Wk.of_below (row := v.ownBlock) hb3) (.inl rfl)
  have HG3 : Hid (W3.ownsRow W1.heap.size 9 1 (.slice go g.length gc) g.length (strCells g)) := z_ax HG2.out hb3
  have hpne2 : q ≠ w.heap.size := fun e => hpne e.symm
  have hbq1 : W2.heap.size ≠ q := by omega
  have hbq2 : W2.heap.size + 1 ≠ q := by omega
  have hbp1 : W2.heap.size ≠ w.heap.size := by omega
  have hbp2 : W2.heap.size + 1 ≠ w.heap.size := by omega
  have e1 : ((at2 + 1 : Nat) : Int) = (at2 : Int) + 1 := by omega
  have hv' := hr2.ne (by omega) hvp
  clear hs3 hy hz hb3
  cases c with
  | false =>
   go_wp2
   refine bodyPost_ret (v := .tuple #[.agg #[.slice none 0 0, .bool true], .nilIface]) (by simp [results, Tryz.results167, go_sem, x0, x1]) rfl ?_
   have hs4 := (HS3.out.set1 (at2 + 1)).wrote hpne hv' (by omega) (.slice none 0 0) (.bool true)
   have hk4 := z_aC (HK3.out.trans (Wk.of_set (row := v.ownBlock) 1 (.int .i64 ((at2 + 1 : Nat) : Int))) (.inl rfl)) (Nat.le_refl _) (.slice none 0 0) (.bool true)
   rw [e1] at hs4 hk4
   exact ⟨hk4, _, v', rfl, hs4, RowTo.refl.trans hr2 (by omega), World.ownsRow_nil _ _ _ _, fun k hk => by simp [Value.ownBlock] at hk⟩
  | true =>
   go_wp2_with fail
   have hs4 : WkSt q base (some ⟨b, off, none⟩) cap ls (W3.setCell ⟨q, 1, none⟩ (.int .i64 ((at2 : Int) + 1))) (at2 + 1) boths ks v' := by rw [← e1]; exact HS3.out.set1 (at2 + 1)
   have hk4 : Wk q v.ownBlock w (W3.setCell ⟨q, 1, none⟩ (.int .i64 ((at2 : Int) + 1))) := HK3.out.trans (Wk.of_set (row := v.ownBlock) 1 _) (.inl rfl)
   have hgq : (Value.slice go g.length gc).ownBlock ≠ some q := fun e => by have := (HG3.out.lt _ e).1; omega
   have hg4 := z_ad HG3.out hgq (j := 1) (.int .i64 ((at2 : Int) + 1))
   have hsz4 : (W3.setCell ⟨q, 1, none⟩ (.int .i64 ((at2 : Int) + 1))).heap.size = W3.heap.size := by simp [World.setCell]
   have y4 : ∀ x j, x ≠ q → (W3.setCell ⟨q, 1, none⟩ (.int .i64 ((at2 : Int) + 1))).cell? ⟨x, j, none⟩ = W3.cell? ⟨x, j, none⟩ := fun x j hx => World.cell?_of_block (a := ⟨x, j, none⟩) (Below.heap_setCell W3 _ _ x hx)
   have y5 : ∀ x j, (W3.setCell ⟨q, 1, none⟩ (.int .i64 ((at2 : Int) + 1))).frozen? ⟨x, j, none⟩ = W3.frozen? ⟨x, j, none⟩ := fun x j => by simp
   obtain ⟨W4, hW4⟩ : ∃ W4, W4 = (W3.setCell ⟨q, 1, none⟩ (.int .i64 ((at2 : Int) + 1))) := ⟨_, rfl⟩
   rw [← hW4] at hs4 hk4 hg4 hsz4 y4 y5 ⊢
   clear hW4
   obtain ⟨go2, gc2, eg, hgc2, hgi⟩ := StrsAt.of_owns hg4
   cases eg
   refine (z_f5 go none gc 0 g [] W4 (by omega) (by simp) (hgi.mono (Nat.zero_le _) (Nat.le_refl _)) (StrsAt.nil _ _ _ _)).mono ?_
   rintro e W5 ⟨v5, rfl, hb5, ho5⟩
   have e0 : comm g [] = [] := by simp [comm, z_jQ]
   rw [e0] at ho5
   obtain ⟨vo, vc, rfl, hvc⟩ := z_aq ho5
   have hx4 := hb5.cell (p := ⟨w.heap.size, 0, none⟩) (by show w.heap.size < _; omega)
   have hx5 := hb5.cell (p := ⟨w.heap.size, 1, none⟩) (by show w.heap.size < _; omega)
   have hx6 := hb5.frozen (p := ⟨w.heap.size, 0, none⟩) (by show w.heap.size < _; omega)
   have hx7 := hb5.frozen (p := ⟨w.heap.size, 1, none⟩) (by show w.heap.size < _; omega)
   rw [y4 _ _ hpne, x0] at hx4
   rw [y4 _ _ hpne, x1] at hx5
   rw [y5, g0] at hx6
   rw [y5, g1] at hx7
   have HS5 : Hid (WkSt q base (some ⟨b, off, none⟩) cap ls W5 (at2 + 1) boths ks v') := hs4.below hb5
   have HK5 : Hid (Wk q v.ownBlock w W5) := hk4.trans (Wk.of_below (row := v.ownBlock) hb5) (.inl rfl)
   have HO5 : Hid (W5.ownsRow W4.heap.size 9 1 (.slice vo 0 vc) 0 []) := ho5
   have HSep : Hid (∀ k, (Value.slice vo 0 vc).ownBlock = some k → v'.ownBlock ≠ some k) := fun k hk hv => by
    have h1 := (ho5.lt k hk).1
    have h2 := (hs4.row_lt hv).2
    omega
   have hvo : (Value.slice vo 0 vc).ownBlock ≠ some w.heap.size := fun e => by have := (ho5.lt _ e).1; omega
   clear hs4 hk4 hg4 y4 y5 hgi hb5 ho5 x0 x1 g0 g1 y0 y1 z0 z1 c1 f1
   simp only [List.length_nil]
   go_wp2
   refine bodyPost_ret (v := .tuple #[.agg #[.slice vo 0 vc, .bool true], .nilIface]) (by simp [results, Tryz.results167, go_sem, hx4, hx5]) rfl ?_
   have hs6 := HS5.out.wrote hpne hv' (by omega) (.slice vo 0 vc) (.bool true)
   have hk6 := z_aC HK5.out (Nat.le_refl _) (.slice vo 0 vc) (.bool true)
   have ho6 := z_b HO5.out hvo (.slice vo 0 vc) (.bool true)
   exact ⟨hk6, _, v', rfl, hs6, RowTo.refl.trans hr2 (by omega), z_bh ho6 (by omega), HSep.out⟩
end
section
open Go.RowKit
def z_gM (r1 r2 : Option (List ByteArray × Bool)) : Option (List ByteArray × Bool) :=
 match r1 with
 | none => none
 | some (g1, c1) => match r2 with
  | none => none
  | some (g2, c2) => if c1 = false then some (g2, c2) else if c2 = false then some (g1, true) else some (comm g1 g2, true)
theorem z_kA (q base : Nat) (ao : Option Addr) (cap : Nat) (ls : List Ln) (at_ at2 at3 boths : Nat) (ks : List ByteArray) (res res2 : Option (List ByteArray × Bool)) (hat : at2 ≤ 1000) (hat3 : at3 ≤ 1000) (hl : ls.length ≤ 60) (h2 : at2 < ls.length) (hk11 : ls[at2].1 = 7) (hres0 : ∀ g c, res = some (g, c) → g.length ≤ 1000) (hres1 : ∀ g c, res2 = some (g, c) → g.length ≤ 1000)
  (H : z_aZ q base ao cap ls 192 at_ at2 boths ks res) (H2 : z_aZ q base ao cap ls 192 at2 at3 boths ks res2) : z_aZ q base ao cap ls 167 at_ (at3 + 1) boths ks (z_gM res res2) := by
 intro w v hs
 have HH : Hid (z_aZ q base ao cap ls 192 at_ at2 boths ks res) := H
 obtain ⟨b, off, rfl⟩ := hs.addr h2
 have HH2 : Hid (z_aZ q base (some ⟨b, off, none⟩) cap ls 192 at2 at3 boths ks res2) := H2
 clear H H2
 have HS : Hid (WkSt q base (some ⟨b, off, none⟩) cap ls w at_ boths ks v) := hs
 have hqlt := hs.obj.lt
 clear hs
 go_enter Tryz.func167, Tryz.ntmps167
 go_wp2_with fail
 obtain ⟨W1, hW1⟩ : ∃ W1, W1 = w.alloc (.cells #[.slice none 0 0, .bool false] 138) := ⟨_, rfl⟩
 have hs1 : WkSt q base (some ⟨b, off, none⟩) cap ls W1 at_ boths ks v := by rw [hW1]; exact HS.out.below ((Below.refl _ _).alloc (Nat.le_refl _) _)
 have hk1 : Wk q v.ownBlock w W1 := by rw [hW1]; exact Wk.of_below ((Below.refl _ _).alloc (Nat.le_refl _) _)
 have hp1 : W1.heap[w.heap.size]? = some (.cells #[.slice none 0 0, .bool false] 138 (0, 0)) := by rw [hW1]; exact heap_alloc_new _ _
 have hsz1 : W1.heap.size = w.heap.size + 1 := by rw [hW1]; simp
 rw [← hW1]
 clear hW1
 refine (HH.out W1 v hs1).mono ?_
 rintro e W2 ⟨hk2, hres⟩
 have hpne : w.heap.size ≠ q := by omega
 have hvp : v.ownBlock ≠ some w.heap.size := fun e => by have := (HS.out.row_lt e).2; omega
 obtain ⟨hp2, x0, x1, g0, g1, hp2lt⟩ := z_hF hp1 hk2 hpne hvp
 have HK12 : Hid (Wk q v.ownBlock w W2) := hk1.trans hk2 (.inl rfl)
 clear hk1 hk2 hp1 hp2 hs1
 cases res with
 | none =>
  obtain ⟨er, v', at3, rfl, hec, hs2, hr2⟩ := hres
  obtain ⟨t, x, rfl⟩ := hec.form
  have HS2 : Hid (WkSt q base (some ⟨b, off, none⟩) cap ls W2 at3 boths ks v') := hs2
  have HEC : Hid (ErrC (.iface t x)) := hec
  clear hs2 hec
  go_wp2
  refine bodyPost_ret (v := .tuple #[.agg #[.slice none 0 0, .bool false], .iface t x]) (by simp [results, Tryz.results167, go_sem, x0, x1, hp2lt]) rfl ?_
  have hv' := hr2.ne (by omega) hvp
  have hk3 := z_aC HK12.out (Nat.le_refl _) (.slice none 0 0) (.bool false)
  have hs3 := HS2.out.wrote hpne hv' (by omega) (.slice none 0 0) (.bool false)
  refine ⟨hk3.trans (Wk.of_below (row := v.ownBlock) ((Below.refl _ _).alloc (Nat.le_refl _) _)) (.inl rfl), _, v', at3, rfl, HEC.out, hs3.below ((Below.refl _ _).alloc (Nat.le_refl _) _), RowTo.refl.trans hr2 (by omega)⟩
 | some r =>
  obtain ⟨g, c⟩ := r
  obtain ⟨gv, v', rfl, hs2, hr2, hg2, hsep⟩ := hres
  have HS2 : Hid (WkSt q base (some ⟨b, off, none⟩) cap ls W2 at2 boths ks v') := hs2
  have HG2 : Hid (W2.ownsRow W1.heap.size 9 1 gv g.length (strCells g)) := hg2
  have hgl := hres0 g c rfl
  obtain ⟨go, gc, rfl, hgc⟩ := z_aq hg2
  have c0 := hs2.obj.c0
  have c1 := hs2.obj.c1
  have f1 := hs2.obj.f 1
  have hqlt2 := hs2.obj.lt
  obtain ⟨ck, hbq⟩ := hs2.kind h2
  rw [hk11] at ck
  have hbl : b < W2.heap.size := by omega
  have HSep1 : Hid (∀ k, (Value.slice go g.length gc).ownBlock = some k → v'.ownBlock ≠ some k) := hsep
  clear hs2 hg2 hsep
  go_wp2
  go_quiet (fail)
  obtain ⟨hb3, hsz3, hy, hz⟩ := z_ip W2 (.slice go g.length gc) (.bool c) (.slice none 0 0) (.bool true) nq
  obtain ⟨W3, hW3⟩ : ∃ W3, W3 = (((W2.alloc (.cells #[.slice go g.length gc, .bool c] 138)).alloc (.cells #[.slice none 0 0, .bool true] 138)).drewN nq) := ⟨_, rfl⟩
  rw [← hW3] at hb3 hsz3 hy hz ⊢
  clear hW3 c0 ck
  have hs3 := HS2.out.below hb3
  have HS3 : Hid (WkSt q base (some ⟨b, off, none⟩) cap ls W3 at2 boths ks v') := hs3
  have c1 := hs3.obj.c1
  have f1 := hs3.obj.f 1
  have HY : Hid (PartB W3 W2.heap.size (.slice go g.length gc) (.bool c)) := hy
  have HZ : Hid (PartB W3 (W2.heap.size + 1) (.slice none 0 0) (.bool true)) := hz
  have x0 := (hb3.cell (p := ⟨w.heap.size, 0, none⟩) hp2lt).trans x0
  have x1 := (hb3.cell (p := ⟨w.heap.size, 1, none⟩) hp2lt).trans x1
  have g0 := (hb3.frozen (p := ⟨w.heap.size, 0, none⟩) hp2lt).trans g0
  have g1 := (hb3.frozen (p := ⟨w.heap.size, 1, none⟩) hp2lt).trans g1
  have hp3lt : w.heap.size < W3.heap.size := by omega
  have HK3 : Hid (Wk q v.ownBlock w W3) := HK12.out.trans (Wk.of_below (row := v.ownBlock) hb3) (.inl rfl)
  have HG3 : Hid (W3.ownsRow W1.heap.size 9 1 (.slice go g.length gc) g.length (strCells g)) := z_ax HG2.out hb3
  have hpne2 : q ≠ w.heap.size := fun e => hpne e.symm
  have hbq1 : W2.heap.size ≠ q := by omega
  have hbq2 : W2.heap.size + 1 ≠ q := by omega
  have hbp1 : W2.heap.size ≠ w.heap.size := by omega
  have hbp2 : W2.heap.size + 1 ≠ w.heap.size := by omega
  have e1 : ((at3 + 1 : Nat) : Int) = (at3 : Int) + 1 := by omega
  have hv' := hr2.ne (by omega) hvp
  clear hs3 hy hz hb3
  go_wp2_with fail
  refine (HH2.out W3 v' HS3.out).mono ?_
  rintro e W4 ⟨hk4, hres⟩
  have hvp1 : v'.ownBlock ≠ some W2.heap.size := fun e => by have := (HS2.out.row_lt e).2; omega
  have hvp2 : v'.ownBlock ≠ some (W2.heap.size + 1) := fun e => by have := (HS2.out.row_lt e).2; omega
  have hy4 := HY.out.wk hk4 hbq1 hvp1
  have hz4 := HZ.out.wk hk4 hbq2 hvp2
  obtain ⟨y0, y1, _, _⟩ := hy4.cells
  obtain ⟨z0, z1, k0, k1⟩ := hz4.cells
  have x0 := (hk4.cell hp3lt hpne (fun e => hv' e.symm) 0).trans x0
  have x1 := (hk4.cell hp3lt hpne (fun e => hv' e.symm) 1).trans x1
  have g0 := (hk4.frozen hp3lt hpne (fun e => hv' e.symm) 0).trans g0
  have g1 := (hk4.frozen hp3lt hpne (fun e => hv' e.symm) 1).trans g1
  have hp4lt : w.heap.size < W4.heap.size := by have := hk4.size; omega
  have hz4lt : W2.heap.size + 1 < W4.heap.size := hz4.lt
  have hy4lt : W2.heap.size < W4.heap.size := hy4.lt
  have HK4 : Hid (Wk q v.ownBlock w W4) := HK3.out.trans hk4 (RowTo.refl.trans hr2 (by omega)).or
  have HG4 : Hid (W4.ownsRow W1.heap.size 9 1 (.slice go g.length gc) g.length (strCells g)) := z_b9 HG3.out (fun k hk => hk4.block k (HG3.out.lt k hk).2 (fun e => by have := (HG3.out.lt k hk).1; omega) (fun e => HSep1.out k hk e.symm))
  have hsz34 := hk4.size
  clear hk4 hy4 hz4
  cases res2 with
  | none =>
   obtain ⟨er, v2, at4, rfl, hec, hs4, hr4⟩ := hres
   obtain ⟨t, x, rfl⟩ := hec.form
   have HS4 : Hid (WkSt q base (some ⟨b, off, none⟩) cap ls W4 at4 boths ks v2) := hs4
   have HEC : Hid (ErrC (.iface t x)) := hec
   clear hs4 hec
   have hw1 := hr4.ne (k := W2.heap.size + 1) (by omega) hvp2
   have hw2 := hr4.ne (k := w.heap.size) hp3lt hv'
   go_wp2
   refine bodyPost_ret (v := .tuple #[.agg #[.slice none 0 0, .bool false], .iface t x]) (by simp [results, Tryz.results167, go_sem, x0, x1]) rfl ?_
   have hs5 := (HS4.out.wrote hbq2 hw1 (by omega) (.slice none 0 0) (.bool false)).wrote hpne hw2 (by omega) (.slice none 0 0) (.bool false)
   have hk5 := z_aC (z_aC HK4.out (p := W2.heap.size + 1) (by omega) (.slice none 0 0) (.bool false)) (Nat.le_refl _) (.slice none 0 0) (.bool false)
   exact ⟨hk5, _, v2, at4, rfl, HEC.out, hs5, (RowTo.refl.trans hr2 (by omega)).trans hr4 (by omega)⟩
  | some r =>
   obtain ⟨gg, c2⟩ := r
   obtain ⟨gv2, v2, rfl, hs4, hr4, hg4, hsep4⟩ := hres
   have hggl := hres1 gg c2 rfl
   obtain ⟨g2o, g2c, rfl, hg2c⟩ := z_aq hg4
   have hw1 := hr4.ne (k := W2.heap.size + 1) (by omega) hvp2
   have hw2 := hr4.ne (k := w.heap.size) hp3lt hv'
   have HS4 : Hid (WkSt q base (some ⟨b, off, none⟩) cap ls W4 at3 boths ks v2) := hs4
   have HGG : Hid (W4.ownsRow W3.heap.size 9 1 (.slice g2o gg.length g2c) gg.length (strCells gg)) := hg4
   have HSep4 : Hid (∀ k, (Value.slice g2o gg.length g2c).ownBlock = some k → v2.ownBlock ≠ some k) := hsep4
   have HSep1' : Hid (∀ k, (Value.slice go g.length gc).ownBlock = some k → v2.ownBlock ≠ some k) := fun k hk hv => by
    rcases hr4 with h | h
    ·exact HSep1.out k hk (h ▸ hv)
    ·have h1 := h k hv
     have h2 := (HG3.out.lt k hk).2
     omega
   have c1 := hs4.obj.c1
   have f1 := hs4.obj.f 1
   have hrt : RowTo w v v2 := (RowTo.refl.trans hr2 (by omega)).trans hr4 (by omega)
   have HRT : Hid (RowTo w v v2) := hrt
   clear hs4 hg4 hsep4 hr2 hr4 hrt
   have hA : ∀ (c2 : Bool), Hid (WkSt q base (some ⟨b, off, none⟩) cap ls (((W4.setCell ⟨W2.heap.size + 1, 0, none⟩ (.slice g2o gg.length g2c)).setCell ⟨W2.heap.size + 1, 1, none⟩ (.bool c2)).setCell ⟨q, 1, none⟩ (.int .i64 ((at3 : Int) + 1))) (at3 + 1) boths ks v2 ∧ Wk q v.ownBlock w (((W4.setCell ⟨W2.heap.size + 1, 0, none⟩ (.slice g2o gg.length g2c)).setCell ⟨W2.heap.size + 1, 1, none⟩ (.bool c2)).setCell ⟨q, 1, none⟩ (.int .i64 ((at3 : Int) + 1)))) := fun c2 => by
    have hs5 := (HS4.out.wrote hbq2 hw1 (by omega) (.slice g2o gg.length g2c) (.bool c2)).set1 (at3 + 1)
    have hk5 := (z_aC HK4.out (p := W2.heap.size + 1) (by omega) (.slice g2o gg.length g2c) (.bool c2)).trans (Wk.of_set (row := v.ownBlock) 1 (.int .i64 ((at3 + 1 : Nat) : Int))) (.inl rfl)
    rw [e1] at hs5 hk5
    exact ⟨hs5, hk5⟩
   have hne1 : W2.heap.size + 1 ≠ W2.heap.size := by omega
   have gq : ∀ (x : Value) (n : Nat) (xs : List Value), W4.ownsRow W1.heap.size 9 1 x n xs → x.ownBlock ≠ some q := fun x n xs h e => by have := (h.lt _ e).1; omega
   have gp : ∀ (x : Value) (n : Nat) (xs : List Value), W4.ownsRow W1.heap.size 9 1 x n xs → x.ownBlock ≠ some w.heap.size := fun x n xs h e => by have := (h.lt _ e).1; omega
   have hgg1 : Hid (W4.ownsRow W1.heap.size 9 1 (.slice g2o gg.length g2c) gg.length (strCells gg)) := z_bh HGG.out (by omega)
   have hgb2 : (Value.slice g2o gg.length g2c).ownBlock ≠ some (W2.heap.size + 1) := fun e => by have := (HGG.out.lt _ e).1; omega
   have hgb1 : (Value.slice go g.length gc).ownBlock ≠ some (W2.heap.size + 1) := fun e => by have := (HG2.out.lt _ e).2; omega
   cases c with
   | false =>
    go_wp2
    refine bodyPost_ret (v := .tuple #[.agg #[.slice g2o gg.length g2c, .bool c2], .nilIface]) (by simp [results, Tryz.results167, go_sem, x0, x1]) rfl ?_
    obtain ⟨hs5, hk5⟩ := (hA c2).out
    exact ⟨z_aC hk5 (Nat.le_refl _) _ _, _, v2, rfl, hs5.wrote hpne hw2 (by omega) _ _, HRT.out, z_bh (z_b (z_ad (z_b HGG.out hgb2 _ _) (gq _ _ _ hgg1.out) _) (gp _ _ _ hgg1.out) _ _) (by omega), HSep4.out⟩
   | true =>
    cases c2 with
    | false =>
     go_wp2
     refine bodyPost_ret (v := .tuple #[.agg #[.slice go g.length gc, .bool true], .nilIface]) (by simp [results, Tryz.results167, go_sem, x0, x1]) rfl ?_
     obtain ⟨hs5, hk5⟩ := (hA false).out
     exact ⟨z_aC hk5 (Nat.le_refl _) _ _, _, v2, rfl, hs5.wrote hpne hw2 (by omega) _ _, HRT.out, z_bh (z_b (z_ad (z_b HG4.out hgb1 _ _) (gq _ _ _ HG4.out) _) (gp _ _ _ HG4.out) _ _) (by omega), HSep1'.out⟩
    | true =>
     go_wp2_with fail
     obtain ⟨hs5, hk5⟩ := (hA true).out
     have hg5 := z_ad (z_b HG4.out hgb1 (.slice g2o gg.length g2c) (.bool true)) (gq _ _ _ HG4.out) (j := 1) (.int .i64 ((at3 : Int) + 1))
     have hgg5 := z_ad (z_b HGG.out hgb2 (.slice g2o gg.length g2c) (.bool true)) (gq _ _ _ hgg1.out) (j := 1) (.int .i64 ((at3 : Int) + 1))
     have hsz5 : (((W4.setCell ⟨W2.heap.size + 1, 0, none⟩ (.slice g2o gg.length g2c)).setCell ⟨W2.heap.size + 1, 1, none⟩ (.bool true)).setCell ⟨q, 1, none⟩ (.int .i64 ((at3 : Int) + 1))).heap.size = W4.heap.size := by simp [World.setCell]
     have y5 : ∀ x j, x ≠ q → x ≠ W2.heap.size + 1 → (((W4.setCell ⟨W2.heap.size + 1, 0, none⟩ (.slice g2o gg.length g2c)).setCell ⟨W2.heap.size + 1, 1, none⟩ (.bool true)).setCell ⟨q, 1, none⟩ (.int .i64 ((at3 : Int) + 1))).cell? ⟨x, j, none⟩ = W4.cell? ⟨x, j, none⟩ := fun x j hx hx2 => by
      exact World.cell?_of_block (a := ⟨x, j, none⟩) ((Below.heap_setCell _ _ _ x hx).trans ((Below.heap_setCell _ _ _ x hx2).trans (Below.heap_setCell _ _ _ x hx2)))
     have y6 : ∀ x j, (((W4.setCell ⟨W2.heap.size + 1, 0, none⟩ (.slice g2o gg.length g2c)).setCell ⟨W2.heap.size + 1, 1, none⟩ (.bool true)).setCell ⟨q, 1, none⟩ (.int .i64 ((at3 : Int) + 1))).frozen? ⟨x, j, none⟩ = W4.frozen? ⟨x, j, none⟩ := fun x j => by simp
     obtain ⟨W5, hW5⟩ : ∃ W5, W5 = (((W4.setCell ⟨W2.heap.size + 1, 0, none⟩ (.slice g2o gg.length g2c)).setCell ⟨W2.heap.size + 1, 1, none⟩ (.bool true)).setCell ⟨q, 1, none⟩ (.int .i64 ((at3 : Int) + 1))) := ⟨_, rfl⟩
     rw [← hW5] at hs5 hk5 hg5 hgg5 hsz5 y5 y6 ⊢
     clear hW5 hA
     obtain ⟨_, _, eg, _, hgi⟩ := StrsAt.of_owns hg5
     cases eg
     obtain ⟨_, _, eg, _, hggi⟩ := StrsAt.of_owns hgg5
     cases eg
     refine (z_f5 go g2o gc g2c g gg W5 (by omega) (by omega) (hgi.mono (Nat.zero_le _) (Nat.le_refl _)) (hggi.mono (Nat.zero_le _) (Nat.le_refl _))).mono ?_
     rintro e W6 ⟨v5, rfl, hb6, ho6⟩
     obtain ⟨vo, vc, rfl, hvc⟩ := z_aq ho6
     have hx4 := hb6.cell (p := ⟨w.heap.size, 0, none⟩) (by show w.heap.size < _; omega)
     have hx5 := hb6.cell (p := ⟨w.heap.size, 1, none⟩) (by show w.heap.size < _; omega)
     have hx6 := hb6.frozen (p := ⟨w.heap.size, 0, none⟩) (by show w.heap.size < _; omega)
     have hx7 := hb6.frozen (p := ⟨w.heap.size, 1, none⟩) (by show w.heap.size < _; omega)
     rw [y5 _ _ hpne hbp2.symm, x0] at hx4
     rw [y5 _ _ hpne hbp2.symm, x1] at hx5
     rw [y6, g0] at hx6
     rw [y6, g1] at hx7
     have HS6 : Hid (WkSt q base (some ⟨b, off, none⟩) cap ls W6 (at3 + 1) boths ks v2) := hs5.below hb6
     have HK6 : Hid (Wk q v.ownBlock w W6) := hk5.trans (Wk.of_below (row := v.ownBlock) hb6) (.inl rfl)
     have HO6 : Hid (W6.ownsRow W5.heap.size 9 1 (.slice vo (comm g gg).length vc) (comm g gg).length (strCells (comm g gg))) := ho6
     have HSep6 : Hid (∀ k, (Value.slice vo (comm g gg).length vc).ownBlock = some k → v2.ownBlock ≠ some k) := fun k hk hv => by
      have h1 := (ho6.lt k hk).1
      have h2 := (hs5.row_lt hv).2
      omega
     have hvo : (Value.slice vo (comm g gg).length vc).ownBlock ≠ some w.heap.size := fun e => by have := (ho6.lt _ e).1; omega
     clear hs5 hk5 hg5 hgg5 y5 y6 hgi hggi hb6 ho6 x0 x1 g0 g1 y0 y1 z0 z1 c1 f1 k0 k1
     go_wp2
     refine bodyPost_ret (v := .tuple #[.agg #[.slice vo (comm g gg).length vc, .bool true], .nilIface]) (by simp [results, Tryz.results167, go_sem, hx4, hx5]) rfl ?_
     exact ⟨z_aC HK6.out (Nat.le_refl _) _ _, _, v2, rfl, HS6.out.wrote hpne hw2 (by omega) _ _, HRT.out, z_bh (z_b HO6.out hvo _ _) (by omega), HSep6.out⟩
end
end Go.Proofs.YtlbjjbolbopfmaaGreatDoor
