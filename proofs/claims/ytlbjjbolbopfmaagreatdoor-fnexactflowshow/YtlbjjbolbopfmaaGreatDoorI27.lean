import Derived.Test.YtlbjjbolbopfmaaGreatDoorI26
import Derived.Test.YtlbjjbolbopfmaaGreatDoorI08
import Derived.Deep.RegionLaw
import Derived.Deep.AppendLies
import Derived.Deep.RegionHeld3
import Derived.Test.YtlbjjbolbopfmaaGreatDoorI00
import Derived.Test.YtlbjjbolbopfmaaGreatDoorI25
namespace Go.Proofs.YtlbjjbolbopfmaaGreatDoor
set_option maxHeartbeats 60000000
set_option maxRecDepth 1000000
set_option linter.unusedVariables false
section
open Go.RowKit
theorem Tryz.infoSt : (Tryz.prog.info? 52).map (fun i => (i.zero, i.size, i.bytes)) = some (some (.agg #[.int .i64 0, .string ⟨#[]⟩, .string ⟨#[]⟩, .slice none 0 0, .string ⟨#[]⟩, .int .i64 0, .int .i64 0]), 7, 96) := by kernel_rfl
theorem z_mh {q base : Nat} {lo : Option Addr} {cap : Nat} {ls : List Ln} {at_ : Nat} {v : Value} {ps : List (Stp × Value)} {w w3 : World} {o : Obj} (h : MkSt q base lo cap ls w at_ v ps) (hg : (w.alloc o).drew.grownBy w3 v.ownBlock) :
  w3.heap[q]? = w.heap[q]? ∧ (∀ j, w3.frozen? ⟨q, j, none⟩ = false) ∧ w3.cell? ⟨q, 0, none⟩ = some v := by
 have hne : some q ≠ v.ownBlock := fun e => by have := (h.row_lt e.symm).1; have := h.qb; omega
 have hb : Below w.heap.size w (w.alloc o).drew := ((Below.refl _ _).alloc (Nat.le_refl _) _).drew
 have h1 : w3.heap[q]? = w.heap[q]? := (hg.block q (by have := h.lt; simp; omega) hne).trans (hb.block q h.lt)
 exact ⟨h1, fun j => (World.frozen?_of_block (a := ⟨q, j, none⟩) h1).trans (h.fz j), (World.cell?_of_block (a := ⟨q, 0, none⟩) h1).trans h.c0⟩
theorem z_lV {v : Value} {w w3 : World} {o : Obj} (hg : (w.alloc o).drew.grownBy w3 v.ownBlock) {k : Nat} (hk : k < w.heap.size) (hn : v.ownBlock ≠ some k) (j : Nat) : w3.cell? ⟨k, j, none⟩ = w.cell? ⟨k, j, none⟩ := by
 have hb : Below w.heap.size w (w.alloc o).drew := ((Below.refl _ _).alloc (Nat.le_refl _) _).drew
 exact World.cell?_of_block (a := ⟨k, j, none⟩) ((hg.block k (by simp; omega) (fun e => hn e.symm)).trans (hb.block k hk))
theorem z_iI {v : Value} {w w3 : World} {o : Obj} (hg : (w.alloc o).drew.grownBy w3 v.ownBlock) {k : Nat} (hk : k < w.heap.size) (hn : v.ownBlock ≠ some k) : w3.heap[k]? = w.heap[k]? := by
 have hb : Below w.heap.size w (w.alloc o).drew := ((Below.refl _ _).alloc (Nat.le_refl _) _).drew
 exact (hg.block k (by simp; omega) (fun e => hn e.symm)).trans (hb.block k hk)
theorem z_mB {q base : Nat} {lo : Option Addr} {cap : Nat} {ls : List Ln} {at_ : Nat} {v u : Value} {ps : List (Stp × Value)} {s : Stp} {w w3 : World} {o : Obj} {g c : Nat} (h : MkSt q base lo cap ls w at_ v ps) (hu : w.ownsRow base 9 1 u s.args.length (strCells s.args)) (hap : ∀ p ∈ ps, ∀ k, p.2.ownBlock = some k → u.ownBlock ≠ some k)
  (hown : w3.ownsRow base 52 7 (.slice (some ⟨g, 0, none⟩) (ps.length + 1) c) (ps.length + 1) ((ps.flatMap fun p => stC p.1 p.2) ++ stC s u)) (hg : (w.alloc o).drew.grownBy w3 v.ownBlock) (hat : v.ownBlock = some g ∨ g = w.heap.size + 1) :
  MkSt q base lo cap ls (w3.setCell ⟨q, 0, none⟩ (.slice (some ⟨g, 0, none⟩) (ps.length + 1) c)) at_ (.slice (some ⟨g, 0, none⟩) (ps.length + 1) c) (ps ++ [(s, u)]) ∧ Wk q v.ownBlock w (w3.setCell ⟨q, 0, none⟩ (.slice (some ⟨g, 0, none⟩) (ps.length + 1) c)) ∧ RowTo w v (.slice (some ⟨g, 0, none⟩) (ps.length + 1) c) := by
 have hb : Below w.heap.size w (w.alloc o).drew := ((Below.refl _ _).alloc (Nat.le_refl _) _).drew
 obtain ⟨hq3, _, _⟩ := z_mh h hg
 have hgb : base ≤ g := (hown.lt g rfl).1
 have hqb := h.qb
 have hk3 : Wk q v.ownBlock w w3 := (Wk.of_below (row := v.ownBlock) hb).trans (Wk.of_grown hg) (.inl rfl)
 have hk : Wk q v.ownBlock w (w3.setCell ⟨q, 0, none⟩ (.slice (some ⟨g, 0, none⟩) (ps.length + 1) c)) := hk3.trans (Wk.of_set (row := v.ownBlock) 0 _) (.inl rfl)
 have far : ∀ (n : Nat) (x : Value) (xs : List Value), w.ownsRow base 9 1 x n xs → (w3.setCell ⟨q, 0, none⟩ (.slice (some ⟨g, 0, none⟩) (ps.length + 1) c)).ownsRow base 9 1 x n xs := fun n x xs hx => by
  refine z_ad (z_b8 hx fun k hk' => hk3.block k (hx.lt k hk').2 ?_ ?_) (fun e => by have := (hx.lt q e).1; omega) _
  ·have := (hx.lt k hk').1; omega
  ·intro e; exact z_cH h.own.row hx (by decide) k e.symm hk'
 refine ⟨⟨?_, ⟨?_, fun p hp => ?_, ?_⟩, h.lines.below (hk.lines h), hqb, Nat.le_trans h.bw hk.size⟩, hk, ?_⟩
 ·exact heap_setCell_same w3 q 0 _ _ _ (hq3.trans h.obj)
 ·have h1 := z_ad (g := q) (j := 0) hown (by simp [Value.ownBlock]; omega) (.slice (some ⟨g, 0, none⟩) (ps.length + 1) c)
  have e : ((ps ++ [(s, u)]).flatMap fun p : Stp × Value => stC p.1 p.2) = (ps.flatMap fun p => stC p.1 p.2) ++ stC s u := by rw [List.flatMap_append]; simp
  rw [List.length_append, e]; exact h1
 ·rcases List.mem_append.1 hp with hp | hp
  ·exact far _ _ _ (h.own.args p hp)
  ·have : p = (s, u) := by simpa using hp
   subst this
   exact far _ _ _ hu
 ·exact z_ec h.own.apart fun p hp k hk' => hap p hp k hk'
 ·rcases hat with e | e
  ·exact .inl (by rw [e]; rfl)
  ·exact .inr fun k hk' => by
    have : g = k := by simpa [Value.ownBlock] using hk'
    omega
theorem z_nt (q base : Nat) (lo : Option Addr) (cap : Nat) (ls : List Ln) (at_ : Nat) (v : Value) (ps : List (Stp × Value)) (s : Stp) (uo : Option Addr) (uc : Nat) (w : World) (h : MkSt q base lo cap ls w at_ v ps) (hl : ps.length ≤ 100000)
  (hu : w.ownsRow base 9 1 (.slice uo s.args.length uc) s.args.length (strCells s.args)) (hap : ∀ p ∈ ps, ∀ k, p.2.ownBlock = some k → (Value.slice uo s.args.length uc).ownBlock ≠ some k) :
  Calls Tryz.prog 107 #[.pointer (some ⟨q, 0, none⟩), .agg #[.int .i64 s.code, .string s.to, .string s.name, .slice uo s.args.length uc, .string s.undo, .int .i64 s.a, .int .i64 s.b]] w fun e w' => ∃ v', e = .returned (.tuple #[.func (.func 146) #[] #[.pointer (some ⟨w.heap.size, 0, none⟩), .pointer (some ⟨w.heap.size + 1 + 1, 0, none⟩)], .func (.func 147) #[] #[.pointer (some ⟨w.heap.size, 0, none⟩), .pointer (some ⟨w.heap.size + 1 + 1, 0, none⟩)]])
   ∧ MkSt q base lo cap ls w' at_ v' (ps ++ [(s, .slice uo s.args.length uc)]) ∧ Wk q v.ownBlock w w' ∧ RowTo w v v' ∧ w'.heap[w.heap.size]? = some (.cells #[.pointer (some ⟨q, 0, none⟩)] 200 (0, 0)) ∧ w'.heap[w.heap.size + 1 + 1]? = some (.cells #[.int .i64 ps.length] 3 (0, 0)) ∧ w.heap.size + 3 ≤ w'.heap.size := by
 obtain ⟨i0, hi0, hz0, hz1, hz2⟩ := info_parts Tryz.infoSt
 obtain ⟨vo, vc, rfl, hvc⟩ := z_aq h.own.row
 have HM : Hid (MkSt q base lo cap ls w at_ (.slice vo ps.length vc) ps) := h
 have HU : Hid (w.ownsRow base 9 1 (.slice uo s.args.length uc) s.args.length (strCells s.args)) := hu
 have HAp : Hid (∀ p ∈ ps, ∀ k, p.2.ownBlock = some k → (Value.slice uo s.args.length uc).ownBlock ≠ some k) := hap
 have hq := h.lt
 have hqb := h.qb
 have hbw := h.bw
 have c0 := h.c0
 have f0 := h.fz
 obtain ⟨sc, st, sn, sa, su, fa, fb⟩ := s
 simp only at HU HAp ⊢
 clear h hu hap
 go_enter Tryz.func107, Tryz.ntmps107
 go_wp2_with (go_at_call 106; refine (z_j4 q base lo cap ls at_ _ ps _ (HM.out.below (((Below.refl _ _).alloc (Nat.le_refl _) _).alloc (by simp) _)) (by omega)).mono ?_; rintro e wx ⟨rfl, rfl⟩)
 obtain ⟨W1, hW1⟩ : ∃ W1, W1 = (((w.alloc (.cells #[.pointer (some ⟨q, 0, none⟩)] 200)).alloc (.cells #[.int .i64 sc, .string st, .string sn, .slice uo sa.length uc, .string su, .int .i64 fa, .int .i64 fb] 52)).alloc (.cells #[.int .i64 ps.length] 3)) := ⟨_, rfl⟩
 rw [← hW1]
 have hb1 : Below w.heap.size w W1 := by rw [hW1]; exact (((Below.refl _ _).alloc (Nat.le_refl _) _).alloc (by simp) _).alloc (by simp; omega) _
 have hsz1 : W1.heap.size = w.heap.size + 3 := by rw [hW1]; simp
 have x0 : W1.cell? ⟨w.heap.size, 0, none⟩ = some (.pointer (some ⟨q, 0, none⟩)) := by rw [hW1]; simp [go_sem]
 have y0 : W1.cell? ⟨w.heap.size + 1, 0, none⟩ = some (.int .i64 sc) := by rw [hW1]; simp [go_sem]
 have y1 : W1.cell? ⟨w.heap.size + 1, 1, none⟩ = some (.string st) := by rw [hW1]; simp [go_sem]
 have y2 : W1.cell? ⟨w.heap.size + 1, 2, none⟩ = some (.string sn) := by rw [hW1]; simp [go_sem]
 have y3 : W1.cell? ⟨w.heap.size + 1, 3, none⟩ = some (.slice uo sa.length uc) := by rw [hW1]; simp [go_sem]
 have y4 : W1.cell? ⟨w.heap.size + 1, 4, none⟩ = some (.string su) := by rw [hW1]; simp [go_sem]
 have y5 : W1.cell? ⟨w.heap.size + 1, 5, none⟩ = some (.int .i64 fa) := by rw [hW1]; simp [go_sem]
 have y6 : W1.cell? ⟨w.heap.size + 1, 6, none⟩ = some (.int .i64 fb) := by rw [hW1]; simp [go_sem]
 have a0 : W1.cell? ⟨w.heap.size + 1 + 1, 0, none⟩ = some (.int .i64 ps.length) := by rw [hW1]; simp [go_sem]
 have HA0 : Hid (W1.heap[w.heap.size + 1 + 1]? = some (.cells #[.int .i64 ps.length] 3 (0, 0))) := by
  rw [hW1]
  have h := heap_alloc_new ((w.alloc (.cells #[.pointer (some ⟨q, 0, none⟩)] 200)).alloc (.cells #[.int .i64 sc, .string st, .string sn, .slice uo sa.length uc, .string su, .int .i64 fa, .int .i64 fb] 52)) (.cells #[.int .i64 ps.length] 3)
  rw [World.size_alloc, World.size_alloc] at h
  exact h
 have HX0 : Hid (W1.heap[w.heap.size]? = some (.cells #[.pointer (some ⟨q, 0, none⟩)] 200 (0, 0))) := by
  rw [hW1]
  exact (Below.heap_alloc _ _ _ (by simp; omega)).trans ((Below.heap_alloc _ _ _ (by simp)).trans (heap_alloc_new w _))
 have q0 := (hb1.cell (p := ⟨q, 0, none⟩) hq).trans c0
 have g0 := fun j => (hb1.frozen (p := ⟨q, j, none⟩) hq).trans (f0 j)
 have HM1 : Hid (MkSt q base lo cap ls W1 at_ (.slice vo ps.length vc) ps) := HM.out.below hb1
 have HU1 : Hid (W1.ownsRow base 9 1 (.slice uo sa.length uc) sa.length (strCells sa)) := z_ay HU.out hb1
 have HB1 : Hid (Below w.heap.size w W1) := hb1
 have hlt1 : q < W1.heap.size := by omega
 have hb0 : base ≤ W1.heap.size := by omega
 have HNB : Hid ((Value.slice vo ps.length vc).ownBlock ≠ some w.heap.size) := fun e => by have := (HM.out.row_lt e).2; omega
 have HNA : Hid ((Value.slice vo ps.length vc).ownBlock ≠ some (w.heap.size + 1 + 1)) := fun e => by have := (HM.out.row_lt e).2; omega
 have HSZ : Hid (W1.heap.size = w.heap.size + 3) := hsz1
 have ht0 : w.heap.size < W1.heap.size := by omega
 have ht1 : w.heap.size + 1 < W1.heap.size := by omega
 have ht2 : w.heap.size + 1 + 1 < W1.heap.size := by omega
 clear hW1 hb1 c0 f0 a0 hsz1
 go_region_law (refine step_append_lies _ (by rfl) _ _ _ (by rfl) base 52 i0 _ 7 96 Tryz.underlying24 hi0 hz0 hz1 hz2 rfl (by omega) (.slice vo ps.length vc) ps.length _ (by rfl) ((HM1.out.own.row.alloc _).drew) ⟨W1.heap.size, 0, none⟩ 1 1 [.int .i64 sc, .string st, .string sn, .slice uo sa.length uc, .string su, .int .i64 fa, .int .i64 fb] (by rfl) (by rfl) (World.news_of_block (cs := #[.int .i64 sc, .string st, .string sn, .slice uo sa.length uc, .string su, .int .i64 fa, .int .i64 fb]) (t := 52) (fr := (0, 0)) (heap_alloc_new W1 _)) (by simp [Value.oneCell']) (by omega) (by unfold maxLen; omega) (by omega) (by simp; omega) (W1.heap.size + 1) (by simp) ?_; intro gg c3 w3 hown3 hgrow hat hlt3; obtain ⟨hq3, hf3, hc3⟩ := z_mh HM1.out hgrow; have x3 := (z_lV hgrow ht0 HNB.out 0).trans x0)
 all_goals
  have hA : Hid (w3.heap[w.heap.size + 1 + 1]? = some (.cells #[.int .i64 ps.length] 3 (0, 0))) := (z_iI hgrow ht2 HNA.out).trans HA0.out
  have HF : Hid (MkSt q base lo cap ls (w3.setCell ⟨q, 0, none⟩ (.slice (some ⟨gg, 0, none⟩) (ps.length + 1) c3)) at_ (.slice (some ⟨gg, 0, none⟩) (ps.length + 1) c3) (ps ++ [(⟨sc, st, sn, sa, su, fa, fb⟩, .slice uo sa.length uc)]) ∧ Wk q (Value.slice vo ps.length vc).ownBlock W1 (w3.setCell ⟨q, 0, none⟩ (.slice (some ⟨gg, 0, none⟩) (ps.length + 1) c3)) ∧ RowTo W1 (.slice vo ps.length vc) (.slice (some ⟨gg, 0, none⟩) (ps.length + 1) c3)) := z_mB (s := ⟨sc, st, sn, sa, su, fa, fb⟩) HM1.out HU1.out HAp.out hown3 hgrow hat
  have hX : Hid (w3.heap[w.heap.size]? = some (.cells #[.pointer (some ⟨q, 0, none⟩)] 200 (0, 0))) := (z_iI hgrow ht0 HNB.out).trans HX0.out
  have hqn : q ≠ w.heap.size := by omega
  have hqn2 : q ≠ w.heap.size + 1 + 1 := by omega
  clear hown3 hgrow hat
  go_wp2
  refine bodyPost_ret (v := .tuple #[.func (.func 146) #[] #[.pointer (some ⟨w.heap.size, 0, none⟩), .pointer (some ⟨w.heap.size + 1 + 1, 0, none⟩)], .func (.func 147) #[] #[.pointer (some ⟨w.heap.size, 0, none⟩), .pointer (some ⟨w.heap.size + 1 + 1, 0, none⟩)]]) (by simp [results, Tryz.results107, go_sem]) rfl ?_
  refine ⟨_, rfl, HF.out.1, (Wk.of_below (row := (Value.slice vo ps.length vc).ownBlock) HB1.out).trans HF.out.2.1 (.inl rfl), RowTo.refl.trans HF.out.2.2 HB1.out.size, ?_, ?_, ?_⟩
  ·exact (Below.heap_setCell w3 _ _ _ (fun e => hqn e.symm)).trans hX.out
  ·exact (Below.heap_setCell w3 _ _ _ (fun e => hqn2 e.symm)).trans hA.out
  ·have h1 := HF.out.2.1.size
   have h2 := HSZ.out
   omega
end
section
open Go.RowKit
theorem z_k1 {w W w1 : World} {a0 a1 a2 a3 a4 b0 b1 b2 b3 b4 b5 b6 : Value} {s t : TypeId} {n : Nat} (hW : W = ((w.alloc (.cells #[a0, a1, a2, a3, a4] s)).alloc (.cells #[b0, b1, b2, b3, b4, b5, b6] t)).drewN n) (h : Below W.heap.size W w1) :
  Hid (Below w.heap.size w w1) ∧ (w.heap.size + 1 < w1.heap.size) ∧ (w1.cell? ⟨w.heap.size, 0, none⟩ = some a0 ∧ w1.cell? ⟨w.heap.size, 1, none⟩ = some a1 ∧ w1.cell? ⟨w.heap.size, 2, none⟩ = some a2 ∧ w1.cell? ⟨w.heap.size, 3, none⟩ = some a3 ∧ w1.cell? ⟨w.heap.size, 4, none⟩ = some a4)
  ∧ (w1.cell? ⟨w.heap.size + 1, 0, none⟩ = some b0 ∧ w1.cell? ⟨w.heap.size + 1, 1, none⟩ = some b1 ∧ w1.cell? ⟨w.heap.size + 1, 2, none⟩ = some b2 ∧ w1.cell? ⟨w.heap.size + 1, 3, none⟩ = some b3 ∧ w1.cell? ⟨w.heap.size + 1, 4, none⟩ = some b4 ∧ w1.cell? ⟨w.heap.size + 1, 5, none⟩ = some b5 ∧ w1.cell? ⟨w.heap.size + 1, 6, none⟩ = some b6) ∧ (∀ j, w1.frozen? ⟨w.heap.size + 1, j, none⟩ = false) := by
 have e : W.heap.size = w.heap.size + 1 + 1 := by rw [hW]; simp [World.drewN]
 rw [e] at h
 have hB0 : Below w.heap.size w W := by rw [hW]; exact z_aa (((Below.refl _ _).alloc (Nat.le_refl _) _).alloc (by simp) _) n
 have hc0 := fun j => h.cell (p := ⟨w.heap.size, j, none⟩) (by show w.heap.size < w.heap.size + 1 + 1; omega)
 have hc1 := fun j => h.cell (p := ⟨w.heap.size + 1, j, none⟩) (by show w.heap.size + 1 < w.heap.size + 1 + 1; omega)
 have hf1 := fun j => h.frozen (p := ⟨w.heap.size + 1, j, none⟩) (by show w.heap.size + 1 < w.heap.size + 1 + 1; omega)
 subst hW
 refine ⟨hB0.trans (h.mono (by omega)), by have := h.size; rw [e] at this; omega, ⟨?_, ?_, ?_, ?_, ?_⟩, ⟨?_, ?_, ?_, ?_, ?_, ?_, ?_⟩, fun j => ?_⟩
 all_goals first | (rw [hc0]; simp [go_sem]; done) | (rw [hc1]; simp [go_sem]; done) | (rw [hf1]; simp [go_sem]; done)
theorem z_dg (l : Ln) (ao : Option Addr) (cap : Nat) (w : World) (hl : l.2.args.length ≤ 1048576) (hi : StrsAt 0 w.heap.size w ao l.2.args) :
  Calls Tryz.prog 108 #[.agg #[.int .i64 l.1, .string l.2.to, .string l.2.name, .slice ao l.2.args.length cap, .string l.2.undo]] w fun e w' => ∃ uo uc, e = .returned (.agg #[.int .i64 (z_cg l.1), .string l.2.to, .string l.2.name, .slice uo l.2.args.length uc, .string l.2.undo, .int .i64 0, .int .i64 0]) ∧ Below w.heap.size w w' ∧ w'.ownsRow w.heap.size 9 1 (.slice uo l.2.args.length uc) l.2.args.length (strCells l.2.args) := by
 have HI : Hid (StrsAt 0 w.heap.size w ao l.2.args) := hi
 clear hi
 obtain ⟨k, d⟩ := l
 simp only at HI hl ⊢
 go_enter Tryz.func108, Tryz.ntmps108
 go_wp2_with fail
 go_region_held3 (fun wx => wx.cell? ⟨w.heap.size, 0, none⟩ = some (.int .i64 k) ∧ wx.cell? ⟨w.heap.size, 1, none⟩ = some (.string d.to) ∧ wx.cell? ⟨w.heap.size, 2, none⟩ = some (.string d.name) ∧ wx.cell? ⟨w.heap.size, 3, none⟩ = some (.slice ao d.args.length cap) ∧ wx.cell? ⟨w.heap.size, 4, none⟩ = some (.string d.undo))
  (first | (go_keep; done) | exact ⟨x0, x1, x2, x3, x4⟩)
  (first
   | (go_at_call 148; refine (z_k3 k _).mono ?_; rintro e wx ⟨rfl, rfl⟩)
   | (go_at_call 88; refine (z_hM ao cap d.args _ (by omega) (HI.out.later ((((Below.refl _ _).alloc (Nat.le_refl _) _).alloc (by simp) _).drew))).mono ?_; rintro e w1 ⟨u, rfl, hb1, hu1⟩; obtain ⟨uo, uc, rfl, huc⟩ := z_aq hu1; obtain ⟨HB1, hz1, ⟨x0, x1, x2, x3, x4⟩, ⟨y0, y1, y2, y3, y4, y5, y6⟩, fy⟩ := z_k1 (n := 1) rfl hb1; have HU1 : Hid (w1.ownsRow _ 9 1 (.slice uo d.args.length uc) d.args.length (strCells d.args)) := hu1; clear hb1 hu1))
 all_goals
  go_wp2
  refine bodyPost_ret (v := .agg #[.int .i64 (z_cg k), .string d.to, .string d.name, .slice uo d.args.length uc, .string d.undo, .int .i64 0, .int .i64 0]) (by simp [results, Tryz.results108, go_sem, y0, y1, y2, y3, y4, y5, y6]) rfl ?_
  have hne : (Value.slice uo d.args.length uc).ownBlock ≠ some (w.heap.size + 1) := fun e => by have := (HU1.out.lt _ e).1; simp at this; omega
  have hu := z_ad (j := 6) (z_ad (j := 5) (z_ad (j := 4) (z_ad (j := 3) (z_ad (j := 2) (z_ad (j := 1) (z_ad (j := 0) (z_bh HU1.out (by simp; omega : w.heap.size ≤ _)) hne (.int .i64 (z_cg k))) hne (.string d.to)) hne (.string d.name)) hne (.slice uo d.args.length uc)) hne (.string d.undo)) hne (.int .i64 0)) hne (.int .i64 0)
  have hle : w.heap.size ≤ w.heap.size + 1 := Nat.le_succ _
  have hb := ((((((HB1.out.setCell (p := ⟨w.heap.size + 1, 0, none⟩) hle (.int .i64 (z_cg k))).setCell (p := ⟨w.heap.size + 1, 1, none⟩) hle (.string d.to)).setCell (p := ⟨w.heap.size + 1, 2, none⟩) hle (.string d.name)).setCell (p := ⟨w.heap.size + 1, 3, none⟩) hle (.slice uo d.args.length uc)).setCell (p := ⟨w.heap.size + 1, 4, none⟩) hle (.string d.undo)).setCell (p := ⟨w.heap.size + 1, 5, none⟩) hle (.int .i64 0)).setCell (p := ⟨w.heap.size + 1, 6, none⟩) hle (.int .i64 0)
  exact ⟨uo, uc, rfl, hb, hu⟩
end
section
open Go.RowKit
set_option linter.unusedSimpArgs false
theorem z_iw (g off c : Nat) (a b x : ByteArray) (r : List ByteArray) (hl : r.length ≤ 4398046511000) (w : World) (hc : r.length + 3 ≤ c) (hz : ∀ s ∈ a :: b :: x :: r, s.size ≤ 4398046511104) (hi : StrsAt 0 w.heap.size w (some ⟨g, off, none⟩) (a :: b :: x :: r)) (ha : z_ac a = false) :
  Calls Tryz.prog 171 #[.int .i64 (2 : Nat), .slice (some ⟨g, off, none⟩) (r.length + 3) c] w (z_bg w (2 : Nat) (a :: b :: x :: r)) := by
 have HN : Hid (z_af ((2 : Nat) : Int) (a :: b :: x :: r) = none) := by show pLet (a :: b :: x :: r) = _; rw [pLet]; exact if_neg (by rw [ha]; exact fun h => Bool.noConfusion h.1)
 have za := hz a (by simp)
 obtain ⟨_, _, e0, hB, k0⟩ := hi.at 0 (by simp)
 cases e0
 have c0 : w.cell? ⟨g, off, none⟩ = some (.string a) := k0
 obtain ⟨_, _, e1, _, k1⟩ := hi.at 1 (by simp)
 cases e1
 have c1 : w.cell? ⟨g, off + 1, none⟩ = some (.string b) := k1
 have hb0 : g < w.heap.size := hB.2
 have p0 : (0 : Int) < r.length + 3 := by omega
 have p1 : (1 : Int) < r.length + 3 := by omega
 have q0 : decide ((r.length : Int) + 3 < 3) = false := by simp; omega
 clear hi hz k0 k1
 go_enter Tryz.func171, Tryz.ntmps171
 go_wp2_with fail
 refine wp_region_held_drew (S := (fun w' => w'.cell? ⟨g, off, none⟩ = some (.string a) ∧ w'.cell? ⟨g, off + 1, none⟩ = some (.string b))) (by kernel_rfl) ?_ (fun hHeld => ?_)
 ·try dsimp only
  first | assumption | (go_keep; done)
 refine tkL 0 ?_
 try simp only [Act.put, nA, nB, nC, nD, nE, nF]
 refine tkL 1 ?_
 try simp only [Act.put, nA, nB, nC, nD, nE, nF]
 refine tkL 2 ?_
 try simp only [Act.put, nA, nB, nC, nD, nE, nF]
 refine tkL 3 ?_
 try simp only [Act.put, nA, nB, nC, nD, nE, nF]
 refine tkL 4 ?_
 try simp only [Act.put, nA, nB, nC, nD, nE, nF]
 refine tkL 5 ?_
 try simp only [Act.put, nA, nB, nC, nD, nE, nF]
 refine wpAnyH_ready (rs := [6]) (by kernel_rfl) (by simp) ?_
 refine AllReadyH.cons rfl (fun K hK => ?_) AllReadyH.nil
 go_simp
 go_wp2_with (go_at_call 140; refine (z_a a _ (by omega)).mono ?_; rintro e wx ⟨rfl, rfl⟩; rw [ha])
 refine hK.out _ _ ?_ (fun hHeld => ?_)
 ·try dsimp only
  first | assumption | (go_keep; done)
 clear hK K
 try simp only [Act.put, nA, nB, nC, nD, nE, nF]
 refine tkL 7 ?_
 try simp only [Act.put, nA, nB, nC, nD, nE, nF]
 refine tkL 8 ?_
 try simp only [Act.put, nA, nB, nC, nD, nE, nF]
 refine tkL 9 ?_
 try simp only [Act.put, nA, nB, nC, nD, nE, nF]
 refine tkR 10 ?_
 try simp only [Act.put, nA, nB, nC, nD, nE, nF]
 refine tkR 11 ?_
 try simp only [Act.put, nA, nB, nC, nD, nE, nF]
 refine tkR 12 ?_
 try simp only [Act.put, nA, nB, nC, nD, nE, nF]
 refine tkR 13 ?_
 try simp only [Act.put, nA, nB, nC, nD, nE, nF]
 refine tkR 14 ?_
 try simp only [Act.put, nA, nB, nC, nD, nE, nF]
 refine tkR 15 ?_
 try simp only [Act.put, nA, nB, nC, nD, nE, nF]
 refine tkL 16 ?_
 try simp only [Act.put, nA, nB, nC, nD, nE, nF]
 refine tkL 17 ?_
 try simp only [Act.put, nA, nB, nC, nD, nE, nF]
 refine tkR 18 ?_
 try simp only [Act.put, nA, nB, nC, nD, nE, nF]
 refine tkR 19 ?_
 try simp only [Act.put, nA, nB, nC, nD, nE, nF]
 refine tkR 20 ?_
 try simp only [Act.put, nA, nB, nC, nD, nE, nF]
 refine tkR 21 ?_
 try simp only [Act.put, nA, nB, nC, nD, nE, nF]
 refine tkR 22 ?_
 try simp only [Act.put, nA, nB, nC, nD, nE, nF]
 refine tkR 23 ?_
 try simp only [Act.put, nA, nB, nC, nD, nE, nF]
 refine tkR 24 ?_
 try simp only [Act.put, nA, nB, nC, nD, nE, nF]
 refine tkR 25 ?_
 try simp only [Act.put, nA, nB, nC, nD, nE, nF]
 refine tkL 26 ?_
 try simp only [Act.put, nA, nB, nC, nD, nE, nF]
 refine tkL 27 ?_
 try simp only [Act.put, nA, nB, nC, nD, nE, nF]
 refine tkR 28 ?_
 try simp only [Act.put, nA, nB, nC, nD, nE, nF]
 refine tkR 29 ?_
 try simp only [Act.put, nA, nB, nC, nD, nE, nF]
 refine tkR 30 ?_
 try simp only [Act.put, nA, nB, nC, nD, nE, nF]
 refine tkR 31 ?_
 try simp only [Act.put, nA, nB, nC, nD, nE, nF]
 refine tkR 32 ?_
 try simp only [Act.put, nA, nB, nC, nD, nE, nF]
 refine tkR 33 ?_
 try simp only [Act.put, nA, nB, nC, nD, nE, nF]
 refine tkR 34 ?_
 try simp only [Act.put, nA, nB, nC, nD, nE, nF]
 refine tkR 35 ?_
 try simp only [Act.put, nA, nB, nC, nD, nE, nF]
 refine tkL 36 ?_
 try simp only [Act.put, nA, nB, nC, nD, nE, nF]
 refine tkL 37 ?_
 try simp only [Act.put, nA, nB, nC, nD, nE, nF]
 refine tkR 38 ?_
 try simp only [Act.put, nA, nB, nC, nD, nE, nF]
 refine tkR 39 ?_
 try simp only [Act.put, nA, nB, nC, nD, nE, nF]
 refine tkR 40 ?_
 try simp only [Act.put, nA, nB, nC, nD, nE, nF]
 refine tkR 41 ?_
 try simp only [Act.put, nA, nB, nC, nD, nE, nF]
 refine tkL 42 ?_
 try simp only [Act.put, nA, nB, nC, nD, nE, nF]
 refine wpAnyH_done (by kernel_rfl) ?_ _
 all_goals
  go_wp2_with fail
  refine bodyPost_ret (v := .tuple #[.agg #[.int .i64 _, .string ⟨#[]⟩, .string ⟨#[]⟩, .slice none 0 0, .string ⟨#[]⟩], .bool false]) (by simp [results, Tryz.results171, go_sem]; rfl) rfl ?_
  exact z_aH (args := []) (z_ab _ _ _).drew (Nat.le_refl _) (StrsAt.nil _ _ _ _) HN.out (Nat.zero_le _)
end
section
open Go.RowKit
set_option linter.unusedSimpArgs false
theorem z_in (g off c : Nat) (a b x : ByteArray) (r : List ByteArray) (hl : r.length ≤ 4398046511000) (w : World) (hc : r.length + 3 ≤ c) (hz : ∀ s ∈ a :: b :: x :: r, s.size ≤ 4398046511104) (hi : StrsAt 0 w.heap.size w (some ⟨g, off, none⟩) (a :: b :: x :: r)) (ha : z_ac a = true) (hh : hasB opsS b = false) :
  Calls Tryz.prog 171 #[.int .i64 (2 : Nat), .slice (some ⟨g, off, none⟩) (r.length + 3) c] w (z_bg w (2 : Nat) (a :: b :: x :: r)) := by
 have HN : Hid (z_af ((2 : Nat) : Int) (a :: b :: x :: r) = none) := by show pLet (a :: b :: x :: r) = _; rw [pLet]; exact if_neg (by rw [z_nN hh]; exact fun h => by have := h.2.2; omega)
 have za := hz a (by simp)
 obtain ⟨_, _, e0, hB, k0⟩ := hi.at 0 (by simp)
 cases e0
 have c0 : w.cell? ⟨g, off, none⟩ = some (.string a) := k0
 obtain ⟨_, _, e1, _, k1⟩ := hi.at 1 (by simp)
 cases e1
 have c1 : w.cell? ⟨g, off + 1, none⟩ = some (.string b) := k1
 have hb0 : g < w.heap.size := hB.2
 have p0 : (0 : Int) < r.length + 3 := by omega
 have p1 : (1 : Int) < r.length + 3 := by omega
 have q0 : decide ((r.length : Int) + 3 < 3) = false := by simp; omega
 clear hi hz k0 k1
 go_enter Tryz.func171, Tryz.ntmps171
 go_wp2_with fail
 refine wp_region_held_drew (S := (fun w' => w'.cell? ⟨g, off, none⟩ = some (.string a) ∧ w'.cell? ⟨g, off + 1, none⟩ = some (.string b))) (by kernel_rfl) ?_ (fun hHeld => ?_)
 ·try dsimp only
  first | assumption | (go_keep; done)
 refine tkL 0 ?_
 try simp only [Act.put, nA, nB, nC, nD, nE, nF]
 refine tkL 1 ?_
 try simp only [Act.put, nA, nB, nC, nD, nE, nF]
 refine tkL 2 ?_
 try simp only [Act.put, nA, nB, nC, nD, nE, nF]
 refine tkL 3 ?_
 try simp only [Act.put, nA, nB, nC, nD, nE, nF]
 refine tkL 4 ?_
 try simp only [Act.put, nA, nB, nC, nD, nE, nF]
 refine tkL 5 ?_
 try simp only [Act.put, nA, nB, nC, nD, nE, nF]
 refine wpAnyH_ready (rs := [6]) (by kernel_rfl) (by simp) ?_
 refine AllReadyH.cons rfl (fun K hK => ?_) AllReadyH.nil
 go_simp
 go_wp2_with (go_at_call 140; refine (z_a a _ (by omega)).mono ?_; rintro e wx ⟨rfl, rfl⟩; rw [ha])
 refine hK.out _ _ ?_ (fun hHeld => ?_)
 ·try dsimp only
  first | assumption | (go_keep; done)
 clear hK K
 try simp only [Act.put, nA, nB, nC, nD, nE, nF]
 refine tkL 7 ?_
 try simp only [Act.put, nA, nB, nC, nD, nE, nF]
 refine tkL 8 ?_
 try simp only [Act.put, nA, nB, nC, nD, nE, nF]
 refine tkL 9 ?_
 try simp only [Act.put, nA, nB, nC, nD, nE, nF]
 refine tkL 11 ?_
 try simp only [Act.put, nA, nB, nC, nD, nE, nF]
 refine tkL 12 ?_
 try simp only [Act.put, nA, nB, nC, nD, nE, nF]
 refine tkL 13 ?_
 try simp only [Act.put, nA, nB, nC, nD, nE, nF]
 refine wpAnyH_ready (rs := [10]) (by kernel_rfl) (by simp) ?_
 refine AllReadyH.cons rfl (fun K hK => ?_) AllReadyH.nil
 go_simp
 go_wp2_with (go_at_call 196; refine (z_cd _).mono ?_; rintro e w1 ⟨rfl, hb1, hs1⟩; obtain ⟨HB1, HS1, ⟨hz1, hz2⟩, ⟨r0, r1, r2, r3, r4⟩, ⟨s0, s1, s2, s3, s4⟩, f0, f1⟩ := z_bz hb1 hs1; have d0 := (HB1.out.cell (p := ⟨g, off, none⟩) hb0).trans c0; have d1 := (HB1.out.cell (p := ⟨g, off + 1, none⟩) hb0).trans c1; clear hb1 hs1)
 refine hK.out _ _ ?_ (fun hHeld => ?_)
 ·try dsimp only
  first | assumption | exact ⟨d0, d1⟩ | (go_keep; done)
 clear hK K
 try simp only [Act.put, nA, nB, nC, nD, nE, nF]
 refine wpAnyH_ready (rs := [14]) (by kernel_rfl) (by simp) ?_
 refine AllReadyH.cons rfl (fun K hK => ?_) AllReadyH.nil
 go_simp
 go_wp2_with (go_at_call 141; refine (z_aF _ 4 opsS b _ _ (by decide) HS1.out).mono ?_; rintro e w2 ⟨rfl, rfl⟩; rw [hh])
 refine hK.out _ _ ?_ (fun hHeld => ?_)
 ·try dsimp only
  first | assumption | exact ⟨d0, d1⟩ | (go_keep; done)
 clear hK K
 try simp only [Act.put, nA, nB, nC, nD, nE, nF]
 refine tkL 15 ?_
 try simp only [Act.put, nA, nB, nC, nD, nE, nF]
 refine tkL 16 ?_
 try simp only [Act.put, nA, nB, nC, nD, nE, nF]
 refine tkL 17 ?_
 try simp only [Act.put, nA, nB, nC, nD, nE, nF]
 refine tkR 18 ?_
 try simp only [Act.put, nA, nB, nC, nD, nE, nF]
 refine tkR 19 ?_
 try simp only [Act.put, nA, nB, nC, nD, nE, nF]
 refine tkR 20 ?_
 try simp only [Act.put, nA, nB, nC, nD, nE, nF]
 refine tkR 21 ?_
 try simp only [Act.put, nA, nB, nC, nD, nE, nF]
 refine tkR 22 ?_
 try simp only [Act.put, nA, nB, nC, nD, nE, nF]
 refine tkR 23 ?_
 try simp only [Act.put, nA, nB, nC, nD, nE, nF]
 refine tkR 24 ?_
 try simp only [Act.put, nA, nB, nC, nD, nE, nF]
 refine tkR 25 ?_
 try simp only [Act.put, nA, nB, nC, nD, nE, nF]
 refine tkL 26 ?_
 try simp only [Act.put, nA, nB, nC, nD, nE, nF]
 refine tkL 27 ?_
 try simp only [Act.put, nA, nB, nC, nD, nE, nF]
 refine tkR 28 ?_
 try simp only [Act.put, nA, nB, nC, nD, nE, nF]
 refine tkR 29 ?_
 try simp only [Act.put, nA, nB, nC, nD, nE, nF]
 refine tkR 30 ?_
 try simp only [Act.put, nA, nB, nC, nD, nE, nF]
 refine tkR 31 ?_
 try simp only [Act.put, nA, nB, nC, nD, nE, nF]
 refine tkR 32 ?_
 try simp only [Act.put, nA, nB, nC, nD, nE, nF]
 refine tkR 33 ?_
 try simp only [Act.put, nA, nB, nC, nD, nE, nF]
 refine tkR 34 ?_
 try simp only [Act.put, nA, nB, nC, nD, nE, nF]
 refine tkR 35 ?_
 try simp only [Act.put, nA, nB, nC, nD, nE, nF]
 refine tkL 36 ?_
 try simp only [Act.put, nA, nB, nC, nD, nE, nF]
 refine tkL 37 ?_
 try simp only [Act.put, nA, nB, nC, nD, nE, nF]
 refine tkR 38 ?_
 try simp only [Act.put, nA, nB, nC, nD, nE, nF]
 refine tkR 39 ?_
 try simp only [Act.put, nA, nB, nC, nD, nE, nF]
 refine tkR 40 ?_
 try simp only [Act.put, nA, nB, nC, nD, nE, nF]
 refine tkR 41 ?_
 try simp only [Act.put, nA, nB, nC, nD, nE, nF]
 refine tkL 42 ?_
 try simp only [Act.put, nA, nB, nC, nD, nE, nF]
 refine wpAnyH_done (by kernel_rfl) ?_ _
 all_goals
  go_wp2_with fail
  refine bodyPost_ret (v := .tuple #[.agg #[.int .i64 _, .string ⟨#[]⟩, .string ⟨#[]⟩, .slice none 0 0, .string ⟨#[]⟩], .bool false]) (by simp [results, Tryz.results171, go_sem, r0, r1, r2, r3, r4]; rfl) rfl ?_
  exact z_aH (args := []) (z_az HB1.out _ _ _ _ _) (Nat.le_refl _) (StrsAt.nil _ _ _ _) HN.out (Nat.zero_le _)
end
section
open Go.RowKit
set_option linter.unusedSimpArgs false
theorem z_g2 (g off c : Nat) (a b x : ByteArray) (r : List ByteArray) (hl : r.length ≤ 4398046511000) (w : World) (hc : r.length + 3 ≤ c) (hz : ∀ s ∈ a :: b :: x :: r, s.size ≤ 4398046511104) (hi : StrsAt 0 w.heap.size w (some ⟨g, off, none⟩) (a :: b :: x :: r)) (ha : z_ac a = true) (hi2 : (b.toList == [105, 115]) = true) (hr : r.length ≠ 0) (q4 : ((r.length : Int) + 3 != 4) = false) :
  Calls Tryz.prog 171 #[.int .i64 (2 : Nat), .slice (some ⟨g, off, none⟩) (r.length + 3) c] w (z_bg w (2 : Nat) (a :: b :: x :: r)) := by
 have HN : Hid (z_af ((2 : Nat) : Int) (a :: b :: x :: r) = none) := by show pLet (a :: b :: x :: r) = _; rw [pLet]; exact if_neg (by rw [z_jh hi2]; exact fun h => by have := h.2.2; omega)
 have za := hz a (by simp)
 obtain ⟨_, _, e0, hB, k0⟩ := hi.at 0 (by simp)
 cases e0
 have c0 : w.cell? ⟨g, off, none⟩ = some (.string a) := k0
 obtain ⟨_, _, e1, _, k1⟩ := hi.at 1 (by simp)
 cases e1
 have c1 : w.cell? ⟨g, off + 1, none⟩ = some (.string b) := k1
 have hb0 : g < w.heap.size := hB.2
 have p0 : (0 : Int) < r.length + 3 := by omega
 have p1 : (1 : Int) < r.length + 3 := by omega
 have q0 : decide ((r.length : Int) + 3 < 3) = false := by simp; omega
 have hh := z_kl hi2
 have q3 : ((r.length : Int) + 3 != 3) = true := by simp; omega
 have hi3 : (b.toList != [105, 115]) = false := by rw [bne, hi2]; rfl
 clear hi hz k0 k1
 go_enter Tryz.func171, Tryz.ntmps171
 go_wp2_with fail
 refine wp_region_held_drew (S := (fun w' => w'.cell? ⟨g, off, none⟩ = some (.string a) ∧ w'.cell? ⟨g, off + 1, none⟩ = some (.string b))) (by kernel_rfl) ?_ (fun hHeld => ?_)
 ·try dsimp only
  first | assumption | (go_keep; done)
 refine tkL 0 ?_
 try simp only [Act.put, nA, nB, nC, nD, nE, nF]
 refine tkL 1 ?_
 try simp only [Act.put, nA, nB, nC, nD, nE, nF]
 refine tkL 2 ?_
 try simp only [Act.put, nA, nB, nC, nD, nE, nF]
 refine tkL 3 ?_
 try simp only [Act.put, nA, nB, nC, nD, nE, nF]
 refine tkL 4 ?_
 try simp only [Act.put, nA, nB, nC, nD, nE, nF]
 refine tkL 5 ?_
 try simp only [Act.put, nA, nB, nC, nD, nE, nF]
 refine wpAnyH_ready (rs := [6]) (by kernel_rfl) (by simp) ?_
 refine AllReadyH.cons rfl (fun K hK => ?_) AllReadyH.nil
 go_simp
 go_wp2_with (go_at_call 140; refine (z_a a _ (by omega)).mono ?_; rintro e wx ⟨rfl, rfl⟩; rw [ha])
 refine hK.out _ _ ?_ (fun hHeld => ?_)
 ·try dsimp only
  first | assumption | (go_keep; done)
 clear hK K
 try simp only [Act.put, nA, nB, nC, nD, nE, nF]
 refine tkL 7 ?_
 try simp only [Act.put, nA, nB, nC, nD, nE, nF]
 refine tkL 8 ?_
 try simp only [Act.put, nA, nB, nC, nD, nE, nF]
 refine tkL 9 ?_
 try simp only [Act.put, nA, nB, nC, nD, nE, nF]
 refine tkL 11 ?_
 try simp only [Act.put, nA, nB, nC, nD, nE, nF]
 refine tkL 12 ?_
 try simp only [Act.put, nA, nB, nC, nD, nE, nF]
 refine tkL 13 ?_
 try simp only [Act.put, nA, nB, nC, nD, nE, nF]
 refine wpAnyH_ready (rs := [10]) (by kernel_rfl) (by simp) ?_
 refine AllReadyH.cons rfl (fun K hK => ?_) AllReadyH.nil
 go_simp
 go_wp2_with (go_at_call 196; refine (z_cd _).mono ?_; rintro e w1 ⟨rfl, hb1, hs1⟩; obtain ⟨HB1, HS1, ⟨hz1, hz2⟩, ⟨r0, r1, r2, r3, r4⟩, ⟨s0, s1, s2, s3, s4⟩, f0, f1⟩ := z_bz hb1 hs1; have d0 := (HB1.out.cell (p := ⟨g, off, none⟩) hb0).trans c0; have d1 := (HB1.out.cell (p := ⟨g, off + 1, none⟩) hb0).trans c1; clear hb1 hs1)
 refine hK.out _ _ ?_ (fun hHeld => ?_)
 ·try dsimp only
  first | assumption | exact ⟨d0, d1⟩ | (go_keep; done)
 clear hK K
 try simp only [Act.put, nA, nB, nC, nD, nE, nF]
 refine wpAnyH_ready (rs := [14]) (by kernel_rfl) (by simp) ?_
 refine AllReadyH.cons rfl (fun K hK => ?_) AllReadyH.nil
 go_simp
 go_wp2_with (go_at_call 141; refine (z_aF _ 4 opsS b _ _ (by decide) HS1.out).mono ?_; rintro e w2 ⟨rfl, rfl⟩; rw [hh])
 refine hK.out _ _ ?_ (fun hHeld => ?_)
 ·try dsimp only
  first | assumption | exact ⟨d0, d1⟩ | (go_keep; done)
 clear hK K
 try simp only [Act.put, nA, nB, nC, nD, nE, nF]
 refine tkL 15 ?_
 try simp only [Act.put, nA, nB, nC, nD, nE, nF]
 refine tkL 16 ?_
 try simp only [Act.put, nA, nB, nC, nD, nE, nF]
 refine tkL 17 ?_
 try simp only [Act.put, nA, nB, nC, nD, nE, nF]
 refine tkL 18 ?_
 try simp only [Act.put, nA, nB, nC, nD, nE, nF]
 refine tkL 19 ?_
 try simp only [Act.put, nA, nB, nC, nD, nE, nF]
 refine tkL 20 ?_
 try simp only [Act.put, nA, nB, nC, nD, nE, nF]
 refine tkR 21 ?_
 try simp only [Act.put, nA, nB, nC, nD, nE, nF]
 refine tkR 22 ?_
 try simp only [Act.put, nA, nB, nC, nD, nE, nF]
 refine tkR 23 ?_
 try simp only [Act.put, nA, nB, nC, nD, nE, nF]
 refine tkR 24 ?_
 try simp only [Act.put, nA, nB, nC, nD, nE, nF]
 refine tkL 25 ?_
 try simp only [Act.put, nA, nB, nC, nD, nE, nF]
 refine tkL 26 ?_
 try simp only [Act.put, nA, nB, nC, nD, nE, nF]
 refine tkL 27 ?_
 try simp only [Act.put, nA, nB, nC, nD, nE, nF]
 refine tkL 28 ?_
 try simp only [Act.put, nA, nB, nC, nD, nE, nF]
 refine tkL 29 ?_
 try simp only [Act.put, nA, nB, nC, nD, nE, nF]
 refine tkL 30 ?_
 try simp only [Act.put, nA, nB, nC, nD, nE, nF]
 refine tkL 31 ?_
 try simp only [Act.put, nA, nB, nC, nD, nE, nF]
 refine tkL 32 ?_
 try simp only [Act.put, nA, nB, nC, nD, nE, nF]
 refine tkL 33 ?_
 try simp only [Act.put, nA, nB, nC, nD, nE, nF]
 refine tkL 34 ?_
 try simp only [Act.put, nA, nB, nC, nD, nE, nF]
 refine tkL 35 ?_
 try simp only [Act.put, nA, nB, nC, nD, nE, nF]
 refine tkL 36 ?_
 try simp only [Act.put, nA, nB, nC, nD, nE, nF]
 refine tkL 37 ?_
 try simp only [Act.put, nA, nB, nC, nD, nE, nF]
 refine tkR 38 ?_
 try simp only [Act.put, nA, nB, nC, nD, nE, nF]
 refine tkR 39 ?_
 try simp only [Act.put, nA, nB, nC, nD, nE, nF]
 refine tkR 40 ?_
 try simp only [Act.put, nA, nB, nC, nD, nE, nF]
 refine tkR 41 ?_
 try simp only [Act.put, nA, nB, nC, nD, nE, nF]
 refine tkL 42 ?_
 try simp only [Act.put, nA, nB, nC, nD, nE, nF]
 refine wpAnyH_done (by kernel_rfl) ?_ _
 all_goals
  go_wp2_with fail
  refine bodyPost_ret (v := .tuple #[.agg #[.int .i64 _, .string ⟨#[]⟩, .string ⟨#[]⟩, .slice none 0 0, .string ⟨#[]⟩], .bool false]) (by simp [results, Tryz.results171, go_sem, r0, r1, r2, r3, r4]; rfl) rfl ?_
  exact z_aH (args := []) (z_az HB1.out _ _ _ _ _) (Nat.le_refl _) (StrsAt.nil _ _ _ _) HN.out (Nat.zero_le _)
end
end Go.Proofs.YtlbjjbolbopfmaaGreatDoor
