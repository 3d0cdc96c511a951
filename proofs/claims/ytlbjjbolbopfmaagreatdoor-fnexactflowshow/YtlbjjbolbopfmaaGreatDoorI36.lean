import Derived.Test.YtlbjjbolbopfmaaGreatDoorI31
import Derived.Test.YtlbjjbolbopfmaaGreatDoorI34
import Derived.Deep.RegionLaw
import Derived.Deep.AppendLies
import Derived.Deep.RegionHeld3
import Derived.Test.YtlbjjbolbopfmaaGreatDoorI35
import Derived.Test.YtlbjjbolbopfmaaGreatDoorI33
import Derived.Test.YtlbjjbolbopfmaaGreatDoorI16
namespace Go.Proofs.YtlbjjbolbopfmaaGreatDoor
set_option maxHeartbeats 4000000
set_option maxRecDepth 1000000
set_option linter.unusedVariables false
section
open Go.RowKit
structure SkSt (q base : Nat) (lo : Option Addr) (cap : Nat) (ls : List Ln) (w : World) (at_ : Nat) (v : Value) (ps : List (Stp × Value)) : Prop where
 obj : w.heap[q]? = some (.cells #[.slice lo ls.length cap, .int .i64 at_, v] 60 (0, 0))
 own : z_dq base w v ps
 lines : LinesAt q w lo ls
 qb : q < base
 bw : base ≤ w.heap.size
section
variable {q base : Nat} {lo : Option Addr} {cap : Nat} {ls : List Ln} {w w' : World} {at_ : Nat} {v v' : Value} {ps : List (Stp × Value)}
theorem SkSt.lt (h : SkSt q base lo cap ls w at_ v ps) : q < w.heap.size := (Array.getElem?_eq_some_iff.1 h.obj).1
theorem SkSt.c0 (h : SkSt q base lo cap ls w at_ v ps) : w.cell? ⟨q, 0, none⟩ = some (.slice lo ls.length cap) := by rw [cell_of_row _ _ 0 _ _ _ h.obj]; rfl
theorem SkSt.c1 (h : SkSt q base lo cap ls w at_ v ps) : w.cell? ⟨q, 1, none⟩ = some (.int .i64 at_) := by rw [cell_of_row _ _ 1 _ _ _ h.obj]; rfl
theorem SkSt.c2 (h : SkSt q base lo cap ls w at_ v ps) : w.cell? ⟨q, 2, none⟩ = some v := by rw [cell_of_row _ _ 2 _ _ _ h.obj]; rfl
theorem SkSt.fz (h : SkSt q base lo cap ls w at_ v ps) (j : Nat) : w.frozen? ⟨q, j, none⟩ = false := frozen_of_row _ _ j _ _ h.obj
theorem SkSt.row_lt (h : SkSt q base lo cap ls w at_ v ps) {k : Nat} (hk : v.ownBlock = some k) : base ≤ k ∧ k < w.heap.size := h.own.row.lt k hk
theorem SkSt.row_ne (h : SkSt q base lo cap ls w at_ v ps) {p : Stp × Value} (hp : p ∈ ps) {k : Nat} (hk : p.2.ownBlock = some k) : v.ownBlock ≠ some k := fun e => z_cH h.own.row (h.own.args p hp) (by decide) k e hk
theorem SkSt.below (h : SkSt q base lo cap ls w at_ v ps) (hb : Below w.heap.size w w') : SkSt q base lo cap ls w' at_ v ps :=
 ⟨(hb.block q h.lt).trans h.obj, h.own.below hb, h.lines.below (hb.mono (Nat.le_of_lt h.lt)), h.qb, Nat.le_trans h.bw hb.size⟩
theorem SkSt.linesW (h : SkSt q base lo cap ls w at_ v ps) : LinesAt w.heap.size w lo ls := h.lines.mono (Nat.le_of_lt h.lt)
theorem SkSt.belowq (h : SkSt q base lo cap ls w at_ v ps) (hk : Wk q v.ownBlock w w') : Below q w w' :=
 hk.below q (Nat.le_refl _) (Nat.le_of_lt h.lt) fun k e => by have := (h.row_lt e).1; have := h.qb; omega
theorem SkSt.set1 (h : SkSt q base lo cap ls w at_ v ps) (n : Nat) : SkSt q base lo cap ls (w.setCell ⟨q, 1, none⟩ (.int .i64 n)) n v ps :=
 ⟨heap_setCell_same w q 1 _ _ _ h.obj, h.own.keep fun k hk => Below.heap_setCell w _ _ k (fun e => by have h1 : k = q := e; have := (h.own.lt hk).1; have := h.qb; omega), h.lines.below ((Below.refl q w).setCell (p := ⟨q, 1, none⟩) (Nat.le_refl q) _), h.qb, by simpa [World.setCell] using h.bw⟩
theorem SkSt.other (hm : SkSt q base lo cap ls w at_ v ps) {k : Nat} {cs : Array Value} {t : TypeId} {f : Nat × Nat} (hk : w.heap[k]? = some (.cells cs t f)) (h1 : t ≠ 60) (h2 : t ≠ 52) : k < w.heap.size ∧ k ≠ q ∧ v.ownBlock ≠ some k := by
 refine ⟨(Array.getElem?_eq_some_iff.1 hk).1, fun e => ?_, fun e => ?_⟩
 ·subst e
  have h := hm.obj
  rw [hk] at h
  simp at h
  exact h1 h.2.1
 ·rcases hm.own.row.2 with ⟨rfl, _⟩ | ⟨g, vc, cur, rfl, _, hg, _⟩
  ·simp [Value.ownBlock] at e
  ·simp [Value.ownBlock] at e
   subst e
   rw [hk] at hg
   simp at hg
   exact h2 hg.2.1
theorem LBox.keepS {p : Nat} {l : Ln} {ao : Option Addr} {c : Nat} (h : LBox w p l ao c) (hm : SkSt q base lo cap ls w at_ v ps) (hk : Wk q v.ownBlock w w') : LBox w' p l ao c := by
 obtain ⟨h1, h2, h3⟩ := hm.other h (by decide) (by decide)
 exact (hk.block p h1 h2 (fun e => h3 e.symm)).trans h
theorem z_fo {x : Stp × Value} {qs : List (Stp × Value)} {g vc n : Nat} (h : SkSt q base lo cap ls w at_ (.slice (some ⟨g, 0, none⟩) n vc) (ps ++ x :: qs)) (j : Nat) (hj : j < 7) (y : Value) (s : Stp) (hs : stC s x.2 = (stC x.1 x.2).set j y) (ha : s.args = x.1.args) :
  SkSt q base lo cap ls (w.setCell ⟨g, ps.length * 7 + j, none⟩ y) at_ (.slice (some ⟨g, 0, none⟩) n vc) (ps ++ (s, x.2) :: qs) ∧ Wk q (Value.slice (some ⟨g, 0, none⟩) n vc).ownBlock w (w.setCell ⟨g, ps.length * 7 + j, none⟩ y) := by
 obtain ⟨ao, cap', e, _⟩ := z_aq h.own.row
 simp only [Value.slice.injEq] at e
 obtain ⟨_, hn, _⟩ := e
 subst hn
 have hi : ps.length < (ps ++ x :: qs).length := by simp
 have hx : (ps ++ x :: qs)[ps.length] = x := z_ja ps qs x hi
 have hg := h.row_lt (k := g) rfl
 have hqb := h.qb
 have hgr : w.grownBy (w.setCell ⟨g, ps.length * 7 + j, none⟩ y) (some g) := z_aj g _ _
 have hk : Wk q (Value.slice (some ⟨g, 0, none⟩) (ps ++ x :: qs).length vc).ownBlock w (w.setCell ⟨g, ps.length * 7 + j, none⟩ y) := Wk.of_grown hgr
 have hself : (ps ++ x :: qs).set ps.length (ps ++ x :: qs)[ps.length] = ps ++ x :: qs := by rw [hx, z_g0]
 have hrow : w.ownsRow base 52 7 (.slice (some ⟨g, 0, none⟩) (ps ++ x :: qs).length vc) (ps ++ x :: qs).length (((ps ++ x :: qs).set ps.length (ps ++ x :: qs)[ps.length]).flatMap stF') := by
  rw [hself]; exact h.own.row
 have hrow2 := z_lB (q' := (s, x.2)) z_gH hrow hi j hj y (by show stC s x.2 = _; rw [hx]; exact hs)
 have hne : x.2.ownBlock ≠ some g := fun e => h.row_ne (p := x) (by simp) e rfl
 have hown := h.own.step (by decide) hi (q := (s, x.2)) (by rw [hx]) hrow2 (by
  have h2 := z_ad (j := ps.length * 7 + j) (h.own.args x (by simp)) hne y
  show World.ownsRow _ _ _ _ _ _ _
  unfold stA at h2 ⊢
  rw [ha]; exact h2) (Inn.of_grown hgr fun k e => .inl e)
 rw [z_g0] at hown
 have el : (ps ++ (s, x.2) :: qs).length = (ps ++ x :: qs).length := by simp
 refine ⟨⟨(hgr.block q h.lt (by simp; omega)).trans h.obj, ?_, h.lines.below (h.belowq hk), hqb, Nat.le_trans h.bw hgr.size⟩, hk⟩
 exact hown
end
end
section
open Go.RowKit
theorem z_o {q base : Nat} {lo : Option Addr} {cap : Nat} {ls : List Ln} {at_ : Nat} {v : Value} {ps : List (Stp × Value)} {w w3 : World} {o : Obj} (h : SkSt q base lo cap ls w at_ v ps) (hg : (w.alloc o).drew.grownBy w3 v.ownBlock) :
  w3.heap[q]? = w.heap[q]? ∧ (∀ j, w3.frozen? ⟨q, j, none⟩ = false) ∧ w3.cell? ⟨q, 2, none⟩ = some v := by
 have hne : some q ≠ v.ownBlock := fun e => by have := (h.row_lt e.symm).1; have := h.qb; omega
 have hb : Below w.heap.size w (w.alloc o).drew := ((Below.refl _ _).alloc (Nat.le_refl _) _).drew
 have h1 : w3.heap[q]? = w.heap[q]? := (hg.block q (by have := h.lt; simp; omega) hne).trans (hb.block q h.lt)
 exact ⟨h1, fun j => (World.frozen?_of_block (a := ⟨q, j, none⟩) h1).trans (h.fz j), (World.cell?_of_block (a := ⟨q, 2, none⟩) h1).trans h.c2⟩
theorem z_nT {q base : Nat} {lo : Option Addr} {cap : Nat} {ls : List Ln} {at_ : Nat} {v u : Value} {ps : List (Stp × Value)} {s : Stp} {w w3 : World} {o : Obj} {g c : Nat} (h : SkSt q base lo cap ls w at_ v ps) (hu : w.ownsRow base 9 1 u s.args.length (strCells s.args)) (hap : ∀ p ∈ ps, ∀ k, p.2.ownBlock = some k → u.ownBlock ≠ some k)
  (hown : w3.ownsRow base 52 7 (.slice (some ⟨g, 0, none⟩) (ps.length + 1) c) (ps.length + 1) ((ps.flatMap fun p => stC p.1 p.2) ++ stC s u)) (hg : (w.alloc o).drew.grownBy w3 v.ownBlock) (hat : v.ownBlock = some g ∨ g = w.heap.size + 1) :
  SkSt q base lo cap ls (w3.setCell ⟨q, 2, none⟩ (.slice (some ⟨g, 0, none⟩) (ps.length + 1) c)) at_ (.slice (some ⟨g, 0, none⟩) (ps.length + 1) c) (ps ++ [(s, u)]) ∧ Wk q v.ownBlock w (w3.setCell ⟨q, 2, none⟩ (.slice (some ⟨g, 0, none⟩) (ps.length + 1) c)) ∧ RowTo w v (.slice (some ⟨g, 0, none⟩) (ps.length + 1) c) := by
 have hb : Below w.heap.size w (w.alloc o).drew := ((Below.refl _ _).alloc (Nat.le_refl _) _).drew
 obtain ⟨hq3, _, _⟩ := z_o h hg
 have hgb : base ≤ g := (hown.lt g rfl).1
 have hqb := h.qb
 have hk3 : Wk q v.ownBlock w w3 := (Wk.of_below (row := v.ownBlock) hb).trans (Wk.of_grown hg) (.inl rfl)
 have hk : Wk q v.ownBlock w (w3.setCell ⟨q, 2, none⟩ (.slice (some ⟨g, 0, none⟩) (ps.length + 1) c)) := hk3.trans (Wk.of_set (row := v.ownBlock) 2 _) (.inl rfl)
 have far : ∀ (n : Nat) (x : Value) (xs : List Value), w.ownsRow base 9 1 x n xs → (w3.setCell ⟨q, 2, none⟩ (.slice (some ⟨g, 0, none⟩) (ps.length + 1) c)).ownsRow base 9 1 x n xs := fun n x xs hx => by
  refine z_ad (z_b8 hx fun k hk' => hk3.block k (hx.lt k hk').2 ?_ ?_) (fun e => by have := (hx.lt q e).1; omega) _
  ·have := (hx.lt k hk').1; omega
  ·intro e; exact z_cH h.own.row hx (by decide) k e.symm hk'
 refine ⟨⟨?_, ⟨?_, fun p hp => ?_, ?_⟩, h.lines.below (h.belowq hk), hqb, Nat.le_trans h.bw hk.size⟩, hk, ?_⟩
 ·exact heap_setCell_same w3 q 2 _ _ _ (hq3.trans h.obj)
 ·have h1 := z_ad (g := q) (j := 2) hown (by simp [Value.ownBlock]; omega) (.slice (some ⟨g, 0, none⟩) (ps.length + 1) c)
  have e : ((ps ++ [(s, u)]).flatMap fun p : Stp × Value => stC p.1 p.2) = (ps.flatMap fun p => stC p.1 p.2) ++ stC s u := by rw [List.flatMap_append]; simp
  rw [List.length_append, e]; exact h1
 ·rcases List.mem_append.1 hp with hp | hp
  ·exact far _ _ _ (h.own.args p hp)
  ·have : p = (s, u) := by simpa using hp
   subst this
   exact far _ _ _ hu
 ·exact z_ec h.own.apart fun p hp k hk' => hap p hp k hk'
 ·rcases hat with e | e
  ·exact .inl (by rw [e]; rfl)
  ·exact .inr fun k hk' => by
    have : g = k := by simpa [Value.ownBlock] using hk'
    omega
def z_n8 (q base : Nat) (lo : Option Addr) (cap : Nat) (ls : List Ln) (at_ : Nat) (v : Value) (w : World) (ps : List (Stp × Value)) (s : Stp) (u : Value) (e : Ending) (w' : World) : Prop :=
 e = .returned (.int .i64 ps.length) ∧ ∃ (g vc : Nat), SkSt q base lo cap ls w' at_ (.slice (some ⟨g, 0, none⟩) (ps.length + 1) vc) (ps ++ [(s, u)]) ∧ Wk q v.ownBlock w w' ∧ RowTo w v (.slice (some ⟨g, 0, none⟩) (ps.length + 1) vc)
theorem z_cQ (q base : Nat) (lo : Option Addr) (cap : Nat) (ls : List Ln) (at_ : Nat) (v : Value) (ps : List (Stp × Value)) (s : Stp) (uo : Option Addr) (uc : Nat) (w : World) (h : SkSt q base lo cap ls w at_ v ps) (hl : ps.length ≤ 100000)
  (hu : w.ownsRow base 9 1 (.slice uo s.args.length uc) s.args.length (strCells s.args)) (hap : ∀ p ∈ ps, ∀ k, p.2.ownBlock = some k → (Value.slice uo s.args.length uc).ownBlock ≠ some k) :
  Calls Tryz.prog 70 #[.pointer (some ⟨q, 0, none⟩), .agg #[.int .i64 s.code, .string s.to, .string s.name, .slice uo s.args.length uc, .string s.undo, .int .i64 s.a, .int .i64 s.b]] w (z_n8 q base lo cap ls at_ v w ps s (.slice uo s.args.length uc)) := by
 obtain ⟨i0, hi0, hz0, hz1, hz2⟩ := info_parts Tryz.infoSt
 obtain ⟨vo, vc, rfl, hvc⟩ := z_aq h.own.row
 obtain ⟨sc, st, sn, sa, su, fa, fb⟩ := s
 have HM : Hid (SkSt q base lo cap ls w at_ (.slice vo ps.length vc) ps) := h
 have HAp : Hid (∀ p ∈ ps, ∀ k, p.2.ownBlock = some k → (Value.slice uo sa.length uc).ownBlock ≠ some k) := hap
 have hq := h.lt
 have hqb := h.qb
 have hbw := h.bw
 simp only at hu ⊢
 obtain ⟨W1, hW1⟩ : ∃ W1, W1 = w.alloc (.cells #[.int .i64 sc, .string st, .string sn, .slice uo sa.length uc, .string su, .int .i64 fa, .int .i64 fb] 52) := ⟨_, rfl⟩
 have hb1 : Below w.heap.size w W1 := by rw [hW1]; exact (Below.refl _ _).alloc (Nat.le_refl _) _
 have hsz1 : W1.heap.size = w.heap.size + 1 := by rw [hW1]; simp
 have y0 : W1.cell? ⟨w.heap.size, 0, none⟩ = some (.int .i64 sc) := by rw [hW1]; simp [go_sem]
 have y1 : W1.cell? ⟨w.heap.size, 1, none⟩ = some (.string st) := by rw [hW1]; simp [go_sem]
 have y2 : W1.cell? ⟨w.heap.size, 2, none⟩ = some (.string sn) := by rw [hW1]; simp [go_sem]
 have y3 : W1.cell? ⟨w.heap.size, 3, none⟩ = some (.slice uo sa.length uc) := by rw [hW1]; simp [go_sem]
 have y4 : W1.cell? ⟨w.heap.size, 4, none⟩ = some (.string su) := by rw [hW1]; simp [go_sem]
 have y5 : W1.cell? ⟨w.heap.size, 5, none⟩ = some (.int .i64 fa) := by rw [hW1]; simp [go_sem]
 have y6 : W1.cell? ⟨w.heap.size, 6, none⟩ = some (.int .i64 fb) := by rw [hW1]; simp [go_sem]
 have HM1 : Hid (SkSt q base lo cap ls W1 at_ (.slice vo ps.length vc) ps) := HM.out.below hb1
 have HU1 : Hid (W1.ownsRow base 9 1 (.slice uo sa.length uc) sa.length (strCells sa)) := z_ay hu hb1
 have HB1 : Hid (Below w.heap.size w W1) := hb1
 have HW1 : Hid (w.alloc (.cells #[.int .i64 sc, .string st, .string sn, .slice uo sa.length uc, .string su, .int .i64 fa, .int .i64 fb] 52) = W1) := hW1.symm
 have q2 := HM1.out.c2
 have g2 := HM1.out.fz
 have hlt1 : q < W1.heap.size := by omega
 have hb0 : base ≤ W1.heap.size := by omega
 have ht0 : w.heap.size < W1.heap.size := by omega
 clear hW1 hb1 h hu hap hsz1
 go_enter Tryz.func70, Tryz.ntmps70
 go_wp2_with fail
 rw [HW1.out]
 go_region_law (refine step_append_lies _ (by rfl) _ _ _ (by rfl) base 52 i0 _ 7 96 Tryz.underlying24 hi0 hz0 hz1 hz2 rfl (by omega) (.slice vo ps.length vc) ps.length _ (by rfl) ((HM1.out.own.row.alloc _).drew) ⟨W1.heap.size, 0, none⟩ 1 1 [.int .i64 sc, .string st, .string sn, .slice uo sa.length uc, .string su, .int .i64 fa, .int .i64 fb] (by rfl) (by rfl) (World.news_of_block (cs := #[.int .i64 sc, .string st, .string sn, .slice uo sa.length uc, .string su, .int .i64 fa, .int .i64 fb]) (t := 52) (fr := (0, 0)) (heap_alloc_new W1 _)) (by simp [Value.oneCell']) (by omega) (by unfold maxLen; omega) (by omega) (by simp; omega) (W1.heap.size + 1) (by simp) ?_; intro gg c3 w3 hown3 hgrow hat hlt3; obtain ⟨hq3, hf3, hc3⟩ := z_o HM1.out hgrow)
 all_goals
  have HF : Hid (SkSt q base lo cap ls (w3.setCell ⟨q, 2, none⟩ (.slice (some ⟨gg, 0, none⟩) (ps.length + 1) c3)) at_ (.slice (some ⟨gg, 0, none⟩) (ps.length + 1) c3) (ps ++ [(⟨sc, st, sn, sa, su, fa, fb⟩, .slice uo sa.length uc)]) ∧ Wk q (Value.slice vo ps.length vc).ownBlock W1 (w3.setCell ⟨q, 2, none⟩ (.slice (some ⟨gg, 0, none⟩) (ps.length + 1) c3)) ∧ RowTo W1 (.slice vo ps.length vc) (.slice (some ⟨gg, 0, none⟩) (ps.length + 1) c3)) := z_nT (s := ⟨sc, st, sn, sa, su, fa, fb⟩) HM1.out HU1.out HAp.out hown3 hgrow hat
  clear hown3 hgrow hat
  go_wp2
  go_ret
  exact ⟨rfl, gg, c3, HF.out.1, (Wk.of_below (row := (Value.slice vo ps.length vc).ownBlock) HB1.out).trans HF.out.2.1 (.inl rfl), RowTo.refl.trans HF.out.2.2 HB1.out.size⟩
end
section
open Go.RowKit
def z_hS (k : Int) : Int := if k = 2 then 1 else if k = 3 then 2 else if k = 4 then 3 else if k = 5 then 4 else if k = 12 then 10 else if k = 13 then 11 else if k = 15 then 12 else 0
theorem z_dz (k : Int) (w : World) : Calls Tryz.prog 69 #[.int .i64 k] w fun e w' => e = .returned (.int .i64 (z_hS k)) ∧ w' = w := by
 by_cases h2 : k = 2
 ·subst h2; go_enter Tryz.func69, Tryz.ntmps69; go_wp2; go_ret; exact ⟨rfl, rfl⟩
 by_cases h3 : k = 3
 ·subst h3; go_enter Tryz.func69, Tryz.ntmps69; go_wp2; go_ret; exact ⟨rfl, rfl⟩
 by_cases h4 : k = 4
 ·subst h4; go_enter Tryz.func69, Tryz.ntmps69; go_wp2; go_ret; exact ⟨rfl, rfl⟩
 by_cases h5 : k = 5
 ·subst h5; go_enter Tryz.func69, Tryz.ntmps69; go_wp2; go_ret; exact ⟨rfl, rfl⟩
 by_cases h12 : k = 12
 ·subst h12; go_enter Tryz.func69, Tryz.ntmps69; go_wp2; go_ret; exact ⟨rfl, rfl⟩
 by_cases h13 : k = 13
 ·subst h13; go_enter Tryz.func69, Tryz.ntmps69; go_wp2; go_ret; exact ⟨rfl, rfl⟩
 by_cases h15 : k = 15
 ·subst h15; go_enter Tryz.func69, Tryz.ntmps69; go_wp2; go_ret; exact ⟨rfl, rfl⟩
 have HN : Hid (z_hS k = 0) := by simp [Hid, z_hS, h2, h3, h4, h5, h12, h13, h15]
 have b2 : (k == 2) = false := beq_eq_false_iff_ne.2 h2
 have b3 : (k == 3) = false := beq_eq_false_iff_ne.2 h3
 have b4 : (k == 4) = false := beq_eq_false_iff_ne.2 h4
 have b5 : (k == 5) = false := beq_eq_false_iff_ne.2 h5
 have b12 : (k == 12) = false := beq_eq_false_iff_ne.2 h12
 have b13 : (k == 13) = false := beq_eq_false_iff_ne.2 h13
 have b15 : (k == 15) = false := beq_eq_false_iff_ne.2 h15
 clear h2 h3 h4 h5 h12 h13 h15
 go_enter Tryz.func69, Tryz.ntmps69
 go_wp2
 go_ret
 exact ⟨by rw [HN.out] <;> rfl, rfl⟩
theorem z_dD (W : World) : ((W.alloc (.cells #[] 9)).drew).ownsRow W.heap.size 9 1 (.slice (some ⟨W.heap.size, 0, none⟩) 0 0) 0 [] :=
 (World.ownsRow_made W #[] 0 (Nat.le_refl _) (by decide) rfl).drew
section
variable {q base : Nat} {lo : Option Addr} {cap : Nat} {ls : List Ln} {w w' : World} {at_ : Nat} {v : Value} {ps : List (Stp × Value)}
theorem z_g4 {p : Nat} {l : Ln} {ao uo : Option Addr} {c uc : Nat} (hm : SkSt q base lo cap ls w at_ v ps) (hx : LBox w p l ao c) (hb : Below w.heap.size w w') (hu : w'.ownsRow w.heap.size 9 1 (.slice uo l.2.args.length uc) l.2.args.length (strCells l.2.args)) :
  Hid (SkSt q base lo cap ls w' at_ v ps) ∧ Hid (w'.cell? ⟨p, 0, none⟩ = some (.int .i64 l.1) ∧ w'.cell? ⟨p, 1, none⟩ = some (.string l.2.to) ∧ w'.cell? ⟨p, 2, none⟩ = some (.string l.2.name) ∧ w'.cell? ⟨p, 3, none⟩ = some (.slice ao l.2.args.length c) ∧ w'.cell? ⟨p, 4, none⟩ = some (.string l.2.undo)) ∧ Hid (Wk q v.ownBlock w w') ∧ Hid (LBox w' p l ao c)
  ∧ Hid (w'.ownsRow base 9 1 (.slice uo l.2.args.length uc) l.2.args.length (strCells l.2.args)) ∧ Hid (∀ x ∈ ps, ∀ k, x.2.ownBlock = some k → (Value.slice uo l.2.args.length uc).ownBlock ≠ some k) ∧ w.heap.size ≤ w'.heap.size := by
 have hx' := hx.below hb
 refine ⟨hm.below hb, hx'.cells, Wk.of_below hb, hx', z_bh hu hm.bw, fun x hx k hk e => ?_, hb.size⟩
 have h1 := ((hm.own.args x hx).lt k hk).2
 have h2 := (hu.lt k e).1
 exact absurd h1 (Nat.not_lt.2 h2)
theorem z_jS {p g vc : Nat} {l : Ln} {ao : Option Addr} {c : Nat} {w0 w2 w3 : World} {e : List (Stp × Value)} (hk1 : Wk q v.ownBlock w0 w) (hk2 : Wk q v.ownBlock w w2) (hs2 : SkSt q base lo cap ls w2 at_ v ps) (hx : LBox w2 p l ao c) (h3 : SkSt q base lo cap ls w3 at_ (.slice (some ⟨g, 0, none⟩) (ps.length + 1) vc) e) (hk3 : Wk q v.ownBlock w2 w3) (hr3 : RowTo w2 v (.slice (some ⟨g, 0, none⟩) (ps.length + 1) vc)) :
  Hid (SkSt q base lo cap ls w3 at_ (.slice (some ⟨g, 0, none⟩) (ps.length + 1) vc) e) ∧ Hid (w3.cell? ⟨p, 0, none⟩ = some (.int .i64 l.1) ∧ w3.cell? ⟨p, 1, none⟩ = some (.string l.2.to) ∧ w3.cell? ⟨p, 2, none⟩ = some (.string l.2.name) ∧ w3.cell? ⟨p, 3, none⟩ = some (.slice ao l.2.args.length c) ∧ w3.cell? ⟨p, 4, none⟩ = some (.string l.2.undo)) ∧ Hid (Wk q v.ownBlock w0 w3 ∧ RowTo w0 v (.slice (some ⟨g, 0, none⟩) (ps.length + 1) vc)) ∧ Hid (LBox w3 p l ao c) := by
 have hx' := hx.keepS hs2 hk3
 exact ⟨h3, hx'.cells, ⟨(hk1.trans hk2 (.inl rfl)).trans hk3 (.inl rfl), RowTo.refl.trans hr3 (Nat.le_trans hk1.size hk2.size)⟩, hx'⟩
end
def SkBlk (q base : Nat) (lo : Option Addr) (cap : Nat) (ls : List Ln) (at_ at2 N : Nat) (kind : Int) (f : Nat → List Stp) : Prop :=
 ∀ (w : World) (v : Value) (ps : List (Stp × Value)), SkSt q base lo cap ls w at_ v ps → ps.length ≤ N → Calls Tryz.prog 32 #[.pointer (some ⟨q, 0, none⟩)] w fun e w' =>
  e = .returned (.int .i64 kind) ∧ ∃ (v' : Value) (qs : List (Stp × Value)), qs.map (·.1) = f ps.length ∧ SkSt q base lo cap ls w' at2 v' (ps ++ qs) ∧ Wk q v.ownBlock w w' ∧ RowTo w v v'
def SkInn (q base : Nat) (lo : Option Addr) (cap : Nat) (ls : List Ln) (F at_ at2 N : Nat) (l : Ln) (f : Nat → List Stp) : Prop :=
 ∀ (w : World) (v : Value) (ps : List (Stp × Value)) (ao : Option Addr) (c : Nat), SkSt q base lo cap ls w at_ v ps → StrsAt 0 q w ao l.2.args → ps.length ≤ N → Calls Tryz.prog F #[.pointer (some ⟨q, 0, none⟩), .agg #[.int .i64 l.1, .string l.2.to, .string l.2.name, .slice ao l.2.args.length c, .string l.2.undo]] w fun e w' =>
  e = .returned (.tuple #[]) ∧ ∃ (v' : Value) (qs : List (Stp × Value)), qs.map (·.1) = f ps.length ∧ SkSt q base lo cap ls w' at2 v' (ps ++ qs) ∧ Wk q v.ownBlock w w' ∧ RowTo w v v'
end
section
open Go.RowKit
theorem z_mW (p : Nat) (lo : Option Addr) (cap : Nat) (ls : List Ln) (hl : ls.length ≤ 60) (hcap : ls.length ≤ cap) (hl0 : 0 < ls.length) (hg : ∀ l ∈ ls, GoodL l) : ∀ n, CkIH n p lo cap ls
 | 0 => z_k 0 p lo cap ls hl hl0 hg fun t rest at_ br ks ht hn _ _ _ _ => by
   have h := z_b9 t
   have hpos : 1 ≤ z_ai t := by cases t <;> simp [z_ai, z_aS] at hn ⊢
   exact absurd ht (by omega)
 | n + 1 => z_k (n + 1) p lo cap ls hl hl0 hg fun t rest at_ br ks ht hn ho hw hd hk => z_ky n p lo cap ls hl hcap hg (z_mW p lo cap ls hl hcap hl0 hg n) t rest at_ br ks ht hn ho hw hd hk
theorem z_e3 (ao : Option Addr) (cap : Nat) (ls : List Ln) (w : World) (hcap : ls.length ≤ cap) (hl : 60 < ls.length) (hl2 : ls.length ≤ 1048576) :
  Calls Tryz.prog 31 #[.slice ao ls.length cap] w fun e w' => ∃ a b : Int, e = .returned (.agg #[.int .i64 a, .int .i64 b]) ∧ Below w.heap.size w w' ∧ z_bV b ls := by
 have HL : Hid (60 < ls.length) := hl
 go_enter Tryz.func31, Tryz.ntmps31
 go_wp2
 refine bodyPost_ret (v := .agg #[.int .i64 0, .int .i64 8]) (by simp [results, Tryz.results31, go_sem]) rfl ?_
 exact ⟨_, _, rfl, (Below.refl _ _).alloc (Nat.le_refl _) _, .inr ⟨by decide, .inl HL.out⟩⟩
theorem z_jY {ls : List Ln} (hz : ∀ l ∈ ls, LnSz l) (hb : ∀ l ∈ ls, backL l = true) : ∀ l ∈ ls, GoodL l := fun l hl => by
 obtain ⟨hg, r, hr⟩ := z_iC (hb l hl)
 exact ⟨hz l hl, hg, fun h => z_lJ h hr⟩
theorem z_kA {l0 : Ln} {t : Bl} {ks : List ByteArray} {c : Bool} (hn : l0.2.args.Nodup) (h : z_al l0.2.args false true t = some (ks, c)) : z_bC l0 t = !c := by
 have e : uniU [] l0.2.args = l0.2.args := by rw [z_bW l0.2.args [] ⟨fun x hx => rfl, hn⟩, List.nil_append]
 rw [z_bC, e, h]; cases c <;> rfl
theorem z_k7 {l0 : Ln} {t : Bl} (hn : l0.2.args.Nodup) (h : z_al l0.2.args false true t = none) : z_bC l0 t = false := by
 have e : uniU [] l0.2.args = l0.2.args := by rw [z_bW l0.2.args [] ⟨fun x hx => rfl, hn⟩, List.nil_append]
 rw [z_bC, e, h]
theorem z_mc (w : World) (o o' : Obj) (B : TypeId) : (((w.alloc o).alloc o').alloc (.cells #[] B)).ownsRow (w.heap.size + 1 + 1) B 1 (.slice (some ⟨w.heap.size + 1 + 1, 0, none⟩) 0 0) 0 [] := by
 have h := z_dJ (w.alloc o) o' B
 rw [World.size_alloc] at h
 exact h
structure ChkSt (w W1 : World) (L : Value) (args : List ByteArray) (w3 : World) (uo : Option Addr) : Prop where
 below : Below w.heap.size w w3
 res : FBox w3 w.heap.size 0 0
 obj : CObj w3 (W1.heap.size + 1) L 1 0 0
 strs : StrsAt (W1.heap.size + 1 + 1) w3.heap.size w3 uo args
theorem z_jV {w W1 : World} {o : Obj} {L : Value} (hb : Below w.heap.size w W1) (hr : FBox W1 w.heap.size 0 0) :
  ChkSt w W1 L [] (((W1.alloc o).alloc (.cells #[L, .int .i64 1, .int .i64 0, .int .i64 0] 102)).alloc (.cells #[] 9)) (some ⟨W1.heap.size + 1 + 1, 0, none⟩) := by
 have h2 : Below W1.heap.size W1 (((W1.alloc o).alloc (.cells #[L, .int .i64 1, .int .i64 0, .int .i64 0] 102)).alloc (.cells #[] 9)) := (z_ab _ _ _).alloc (by simp; omega) _
 refine ⟨hb.trans (h2.mono hb.size), hr.below h2, ?_, StrsAt.nil _ _ _ _⟩
 have h := heap_alloc_new (W1.alloc o) (.cells #[L, .int .i64 1, .int .i64 0, .int .i64 0] 102)
 rw [World.size_alloc] at h
 exact (Below.heap_alloc _ _ _ (by simp)).trans h
theorem z_ne {w W1 w3 : World} {o : Obj} {L : Value} {uo : Option Addr} {uc : Nat} {args : List ByteArray} (hb : Below w.heap.size w W1) (hr : FBox W1 w.heap.size 0 0)
  (hown : w3.ownsRow (W1.heap.size + 1 + 1) 9 1 (.slice uo args.length uc) args.length (strCells args)) (hg : (((W1.alloc o).alloc (.cells #[L, .int .i64 1, .int .i64 0, .int .i64 0] 102)).alloc (.cells #[] 9)).grownBy w3 (Value.slice (some ⟨W1.heap.size + 1 + 1, 0, none⟩) 0 0).ownBlock) :
  ChkSt w W1 L args w3 uo := by
 have h := z_jV (o := o) (L := L) hb hr
 have hws := hb.size
 have hwl := hr.lt
 refine ⟨h.below.grown hg h.below.size (fun j hj => by simp [Value.ownBlock] at hj; omega), (hg.block _ (by simp; omega) (by simp [Value.ownBlock]; try omega)).trans h.res, h.obj.keep (hg.block _ (by simp; try omega) (by simp [Value.ownBlock])), ?_⟩
 obtain ⟨ao', cap', e, _, hs'⟩ := StrsAt.of_owns hown
 simp only [Value.slice.injEq] at e
 obtain ⟨rfl, _, rfl⟩ := e
 exact hs'
theorem z_eR {w w3 w4 : World} {p : Nat} (hp : w.heap.size < p) (hb : Below w.heap.size w w3) (hr : FBox w3 w.heap.size 0 0) (hg : w3.grownBy w4 (some p)) : Below w.heap.size w w4 ∧ FBox w4 w.heap.size 0 0 :=
 ⟨hb.grown hg hb.size (fun j hj => by cases hj; omega), (hg.block _ hr.lt (by simp; omega)).trans hr⟩
theorem z_fe (ao : Option Addr) (cap : Nat) (ls : List Ln) (w : World) (hcap : ls.length ≤ cap) (hl : ls.length ≤ 60) (hi : LinesAt w.heap.size w ao ls) (hz : ∀ l ∈ ls, LnSz l) :
  Calls Tryz.prog 31 #[.slice ao ls.length cap] w fun e w' => ∃ a b : Int, e = .returned (.agg #[.int .i64 a, .int .i64 b]) ∧ Below w.heap.size w w' ∧ z_bV b ls := by
 obtain ⟨i0, hi0, hz0, hz1, hz2⟩ := info_parts Tryz.infoStr
 have HI : Hid (LinesAt w.heap.size w ao ls) := hi
 have HZ : Hid (∀ l ∈ ls, LnSz l) := hz
 have HS0 : Hid (Below w.heap.size w (w.alloc (.cells #[.int .i64 0, .int .i64 0] 43))) := (Below.refl _ _).alloc (Nat.le_refl _) _
 clear hi hz
 have hgt : (ls.length : Int) ≤ 60 := by omega
 go_enter Tryz.func31, Tryz.ntmps31
 go_wp2_with fail
 refine (z_je ao cap ls _ hl HZ.out (HI.out.later HS0.out)).mono ?_
 rintro e W1 ⟨fa, fb, rfl, hb1, hs⟩
 have HB1 : Hid (Below w.heap.size w W1) := HS0.out.trans (hb1.mono (by simp))
 have HR1 : Hid (FBox W1 w.heap.size 0 0) := (hb1.block w.heap.size (by simp)).trans (heap_alloc_new w _)
 have hw1 : w.heap.size < W1.heap.size := by have := hb1.size; simp at this; omega
 clear hb1
 rcases hs with ⟨hf, hst⟩ | ⟨hf, hn⟩
 ·have HST : Hid (standB ls backL) := hst
  obtain ⟨l0, t, hls, hk1, hw⟩ := z_j5 ls hst.1 hst.2.2
  have hl0 : 0 < ls.length := by rw [hls]; simp
  have hlt : ls.length = t.flat.length + 1 := by rw [hls]; simp
  have HLS : Hid (ls = l0 :: t.flat) := hls
  have hg := z_jY HZ.out hst.2.1
  have hg0 := hg l0 (by rw [hls]; simp)
  have HND : Hid (l0.2.args.Nodup) := hg0.good.once hk1
  have ha3 : l0.2.args.length ≤ 3 := hg0.good.args3
  have HCk : Hid (∀ p, CkIH 60 p ao cap ls) := fun p => z_mW p ao cap ls hl hcap hl0 hg 60
  have HW : Hid t.wf := hw
  obtain ⟨b, off, rfl, hB, aoA, capA, hcA, q0, q1, q2, q3, q4, hA⟩ := HI.out 0 hl0
  rw [show ls[0] = l0 by simp [hls]] at hcA q3 hA
  have HA : Hid (StrsAt 0 w.heap.size w aoA l0.2.args) := hA.mono (Nat.le_refl _) (Nat.le_refl _)
  rw [show off + 0 * 5 + 3 = off + 3 by omega] at q3
  have k3 := (HB1.out.cell (p := ⟨b, _, none⟩) hB).trans q3
  have HLT : Hid (ls.length = t.flat.length + 1) := hlt
  have htl : t.flat.length ≤ 60 := by omega
  clear hlt
  have hbw : b < W1.heap.size := by omega
  have h0i : (0 : Int) < ls.length := by omega
  have hfb : (fb != 0) = false := by rw [bne, hf]; rfl
  clear q0 q1 q2 q3 q4 hA hls hst hk1 hw hg hg0
  have hbs : z_e (W1.heap.size + 1) (some ⟨b, off, none⟩) cap ls 1 (1 + t.flat.length) false l0.2.args (z_al l0.2.args false true t) := HCk.out _ t [] 1 false l0.2.args htl HW.out (by rw [HLS.out]; simp) (.inl rfl) (by omega)
  have HBlk : Hid (z_e (W1.heap.size + 1) (some ⟨b, off, none⟩) cap ls 1 (1 + t.flat.length) false l0.2.args (z_al l0.2.args false true t)) := hbs
  clear hbs
  obtain ⟨args, hargs⟩ : ∃ args, args = l0.2.args := ⟨_, rfl⟩
  have HAr : Hid (args = l0.2.args) := hargs
  rw [← hargs] at HBlk HA hcA k3 ha3
  clear hargs
  have key : ∀ (w3 : World) (uo : Option Addr) (uc : Nat), ChkSt w W1 (.slice (some ⟨b, off, none⟩) ls.length cap) args w3 uo → Calls Tryz.prog 67 #[.pointer (some ⟨W1.heap.size + 1, 0, none⟩), .slice uo args.length uc, .bool false] w3 fun e w4 => ∃ (vo : Option Addr) (vn vc : Nat) (y : Bool) (a ln fc : Int), e = .returned (.tuple #[.slice vo vn vc, .bool y]) ∧ Hid (Below w.heap.size w w4) ∧ Hid (FBox w4 w.heap.size 0 0) ∧ Hid (CObj w4 (W1.heap.size + 1) (.slice (some ⟨b, off, none⟩) ls.length cap) a ln fc) ∧ ((fc == 0) = false ∧ Hid (z_bC l0 t = false) ∨ fc = 0 ∧ Hid (z_bC l0 t = !y)) := by
   intro w3 uo uc hs
   refine (HBlk.out w3 uo uc 0 hs.obj ((HI.out.below hs.below).mono (by omega)) hs.strs).mono ?_
   rintro e w4 ⟨hg, hres⟩
   obtain ⟨hb4, hr4⟩ := z_eR (p := W1.heap.size + 1) (by omega) hs.below hs.res hg
   cases hc : z_al args false true t with
   | none =>
    rw [hc] at hres
    obtain ⟨vo, vn, vc, y, a, ln, fc, rfl, ho, hf⟩ := hres
    exact ⟨vo, vn, vc, y, a, ln, fc, rfl, hb4, hr4, ho, .inl ⟨hf, z_k7 HND.out (by rw [← HAr.out]; exact hc)⟩⟩
   | some r =>
    obtain ⟨ks, c⟩ := r
    rw [hc] at hres
    obtain ⟨ko, ck, ln, rfl, ho, _⟩ := hres
    exact ⟨ko, _, ck, c, _, ln, 0, rfl, hb4, hr4, ho, .inr ⟨rfl, z_kA HND.out (by rw [← HAr.out]; exact hc)⟩⟩
  have HKey := (show Hid _ from key)
  clear key HBlk
  have hpp : W1.heap.size + 1 ≠ w.heap.size := by omega
  have hb11 : b < W1.heap.size + 1 := by omega
  have hb12 : b < W1.heap.size + 1 + 1 := by omega
  have fin : ∀ (w5 : World) (a ln fc : Int), Below w.heap.size w w5 → ((fc = 0 ∧ z_bC l0 t = true) ∨ (fc ≠ 0 ∧ z_bC l0 t = false)) → ∃ a b : Int, Ending.returned (.agg #[.int .i64 ln, .int .i64 fc]) = .returned (.agg #[.int .i64 a, .int .i64 b]) ∧ Below w.heap.size w ((w5.setCell ⟨w.heap.size, 0, none⟩ (.int .i64 ln)).setCell ⟨w.heap.size, 1, none⟩ (.int .i64 fc)) ∧ z_bV b ls := fun w5 a ln fc hb h => by
   refine ⟨ln, fc, rfl, (hb.setCell (p := ⟨w.heap.size, 0, none⟩) (Nat.le_refl _) _).setCell (p := ⟨w.heap.size, 1, none⟩) (Nat.le_refl _) _, ?_⟩
   rcases h with ⟨h1, h2⟩ | ⟨h1, h2⟩
   ·exact .inl ⟨h1, hl, HST.out, l0, t, HLS.out, HW.out, h2⟩
   ·exact .inr ⟨h1, .inr (.inr ⟨l0, t, HLS.out, HW.out, h2⟩)⟩
  have HFin := (show Hid _ from fin)
  clear fin
  have cases2 : aoA = none ∧ args = [] ∨ ∃ ad, aoA = some ad := by
   cases aoA with
   | some ad => exact .inr ⟨ad, rfl⟩
   | none =>
    refine .inl ⟨rfl, ?_⟩
    rcases args with _ | ⟨x, r⟩
    ·rfl
    ·obtain ⟨_, _, e, _⟩ := HA.out 0 (by simp)
     cases e
  have HBox : Hid (∀ (w4 : World) (a ln fc : Int), CObj w4 (W1.heap.size + 1) (.slice (some ⟨b, off, none⟩) ls.length cap) a ln fc → w4.cell? ⟨W1.heap.size + 1, 1, none⟩ = some (.int .i64 a) ∧ w4.cell? ⟨W1.heap.size + 1, 2, none⟩ = some (.int .i64 ln) ∧ w4.cell? ⟨W1.heap.size + 1, 3, none⟩ = some (.int .i64 fc) ∧ w4.frozen? ⟨W1.heap.size + 1, 1, none⟩ = false) := fun w4 a ln fc h => ⟨h.c1, h.c2, h.c3, h.fz 1⟩
  rcases cases2 with ⟨rfl, ha0⟩ | ⟨ad, rfl⟩
  ·have HA0 : Hid (args = []) := ha0
   have hal : args.length = 0 := by rw [ha0]; rfl
   rw [hal] at k3
   have HC0 : Hid (ChkSt w W1 (.slice (some ⟨b, off, none⟩) ls.length cap) args (((W1.alloc (.cells #[.int .i64 fa, .int .i64 fb] 43)).alloc (.cells #[.slice (some ⟨b, off, none⟩) ls.length cap, .int .i64 1, .int .i64 0, .int .i64 0] 102)).alloc (.cells #[] 9)) (some ⟨W1.heap.size + 1 + 1, 0, none⟩)) := by
    show ChkSt _ _ _ _ _ _
    rw [ha0]; exact z_jV HB1.out HR1.out
   have HAL : Hid (args.length = 0) := hal
   clear ha0 hal
   go_wp2_with fail
   have hcall := HKey.out _ _ 0 HC0.out
   rw [HAL.out] at hcall
   refine hcall.mono ?_
   rintro e w4 ⟨vo, vn, vc, y, a, ln, fc, rfl, HB4, HR4, HC4, hres⟩
   have hw4 : w.heap.size < w4.heap.size := HR4.out.lt
   have hp4 : W1.heap.size + 1 < w4.heap.size := HC4.out.lt
   obtain ⟨p1, p2, p3, pf⟩ := HBox.out _ _ _ _ HC4.out
   obtain ⟨r0, r1, fr⟩ := HR4.out.cells
   rcases hres with ⟨hf4, HN⟩ | ⟨rfl, HN⟩
   ·have hf5 : fc ≠ 0 := by simpa using hf4
    go_wp2
    refine bodyPost_ret (v := .agg #[.int .i64 ln, .int .i64 fc]) (by simp [results, Tryz.results31, go_sem, r0, r1]) rfl ?_
    exact HFin.out _ a ln fc HB4.out (.inr ⟨hf5, HN.out⟩)
   ·cases y with
    | false =>
     go_wp2
     refine bodyPost_ret (v := .agg #[.int .i64 ln, .int .i64 0]) (by simp [results, Tryz.results31, go_sem, r0, r1]) rfl ?_
     exact HFin.out _ a ln 0 HB4.out (.inl ⟨rfl, HN.out⟩)
    | true =>
     have e1 : Hid ((t.flat.length : Int) = (ls.length : Int) - 1) := by show _ = _; rw [HLT.out]; omega
     have HCx : Hid (CObj (w4.setCell ⟨W1.heap.size + 1, 1, none⟩ (.int .i64 ((ls.length : Int) - 1))) (W1.heap.size + 1) (.slice (some ⟨b, off, none⟩) ls.length cap) (t.flat.length : Nat) ln 0) := by
      have h := HC4.out.at ((ls.length : Int) - 1)
      rw [← e1.out] at h ⊢; exact h
     have HBx : Hid (Below w.heap.size w (w4.setCell ⟨W1.heap.size + 1, 1, none⟩ (.int .i64 ((ls.length : Int) - 1)))) := HB4.out.setCell (p := ⟨W1.heap.size + 1, 1, none⟩) (by show w.heap.size ≤ W1.heap.size + 1; omega) _
     have HRx : Hid (FBox (w4.setCell ⟨W1.heap.size + 1, 1, none⟩ (.int .i64 ((ls.length : Int) - 1))) w.heap.size 0 0) := (Below.heap_setCell w4 ⟨W1.heap.size + 1, 1, none⟩ _ w.heap.size (fun e => by have : w.heap.size = W1.heap.size + 1 := e; omega)).trans HR4.out
     go_wp2_with (go_at_call 68; refine (z_cl _ _ t.flat.length ln 6 _ HCx.out (by omega)).mono ?_; rintro e w5 ⟨rfl, hc5, hg5⟩; obtain ⟨hb5, hr5⟩ := z_eR (p := W1.heap.size + 1) (by omega) HBx.out HRx.out hg5; have HB5 : Hid (Below w.heap.size w w5) := hb5; have HC5 : Hid (CObj w5 _ _ _ _ _) := hc5; obtain ⟨s0, s1, fs⟩ := hr5.cells; obtain ⟨u1, u2, u3, uf⟩ := HBox.out _ _ _ _ hc5; clear hb5 hc5 hg5 hr5 p1 p2 p3 pf r0 r1)
     refine bodyPost_ret (v := .agg #[.int .i64 ((t.flat.length : Int) + 1), .int .i64 6]) (by simp [results, Tryz.results31, go_sem, s0, s1]) rfl ?_
     exact HFin.out _ 0 _ 6 HB5.out (.inr ⟨by decide, HN.out⟩)
  ·have hcells : ∀ j u, (strCells args)[j]? = some u → (((W1.alloc (.cells #[.int .i64 fa, .int .i64 fb] 43)).alloc (.cells #[.slice (some ⟨b, off, none⟩) ls.length cap, .int .i64 1, .int .i64 0, .int .i64 0] 102)).alloc (.cells #[] 9)).cell? (ad.add j) = some u := by
    rcases args with _ | ⟨x, r⟩
    ·intro j u hj; simp [strCells] at hj
    ·obtain ⟨b', o', e, _⟩ := HA.out 0 (by simp)
     cases e
     exact z_b6 (HA.out.later (HB1.out.trans (((z_ab _ _ _).alloc (by simp; omega) _).mono HB1.out.size)))
   have HC := (show Hid _ from hcells)
   have HM : Hid ((((W1.alloc (.cells #[.int .i64 fa, .int .i64 fb] 43)).alloc (.cells #[.slice (some ⟨b, off, none⟩) ls.length cap, .int .i64 1, .int .i64 0, .int .i64 0] 102)).alloc (.cells #[] 9)).ownsRow (W1.heap.size + 1 + 1) 9 1 (.slice (some ⟨W1.heap.size + 1 + 1, 0, none⟩) 0 0) 0 []) := z_mc _ _ _ _
   clear hcells
   go_wp2_with (at_builtin; go_loud (refine wpList_append_own _ rfl _ _ 45 rfl (W1.heap.size + 1 + 1) 9 i0 (.string ByteArray.empty) 1 16 Tryz.underlying45 hi0 hz0 hz1 hz2 rfl (by decide) _ _ _ rfl HM.out ad args.length _ (strCells args) rfl (by simp [strCells]) HC.out (by intro u hu; simp [strCells] at hu; obtain ⟨a, _, rfl⟩ := hu; rfl) (by unfold maxLen; omega) (by omega) (by simp) ?_; intro v' w3 hown hgrow _; rw [Nat.zero_add, List.nil_append] at hown; obtain ⟨uo, uc, rfl, huc⟩ := z_aq hown; have HC0 : Hid (ChkSt w W1 _ args w3 uo) := z_ne HB1.out HR1.out hown hgrow; clear hown hgrow))
   refine (HKey.out _ _ uc HC0.out).mono ?_
   rintro e w4 ⟨vo, vn, vc, y, a, ln, fc, rfl, HB4, HR4, HC4, hres⟩
   have hw4 : w.heap.size < w4.heap.size := HR4.out.lt
   have hp4 : W1.heap.size + 1 < w4.heap.size := HC4.out.lt
   obtain ⟨p1, p2, p3, pf⟩ := HBox.out _ _ _ _ HC4.out
   obtain ⟨r0, r1, fr⟩ := HR4.out.cells
   rcases hres with ⟨hf4, HN⟩ | ⟨rfl, HN⟩
   ·have hf5 : fc ≠ 0 := by simpa using hf4
    go_wp2
    refine bodyPost_ret (v := .agg #[.int .i64 ln, .int .i64 fc]) (by simp [results, Tryz.results31, go_sem, r0, r1]) rfl ?_
    exact HFin.out _ a ln fc HB4.out (.inr ⟨hf5, HN.out⟩)
   ·cases y with
    | false =>
     go_wp2
     refine bodyPost_ret (v := .agg #[.int .i64 ln, .int .i64 0]) (by simp [results, Tryz.results31, go_sem, r0, r1]) rfl ?_
     exact HFin.out _ a ln 0 HB4.out (.inl ⟨rfl, HN.out⟩)
    | true =>
     have e1 : Hid ((t.flat.length : Int) = (ls.length : Int) - 1) := by show _ = _; rw [HLT.out]; omega
     have HCx : Hid (CObj (w4.setCell ⟨W1.heap.size + 1, 1, none⟩ (.int .i64 ((ls.length : Int) - 1))) (W1.heap.size + 1) (.slice (some ⟨b, off, none⟩) ls.length cap) (t.flat.length : Nat) ln 0) := by
      have h := HC4.out.at ((ls.length : Int) - 1)
      rw [← e1.out] at h ⊢; exact h
     have HBx : Hid (Below w.heap.size w (w4.setCell ⟨W1.heap.size + 1, 1, none⟩ (.int .i64 ((ls.length : Int) - 1)))) := HB4.out.setCell (p := ⟨W1.heap.size + 1, 1, none⟩) (by show w.heap.size ≤ W1.heap.size + 1; omega) _
     have HRx : Hid (FBox (w4.setCell ⟨W1.heap.size + 1, 1, none⟩ (.int .i64 ((ls.length : Int) - 1))) w.heap.size 0 0) := (Below.heap_setCell w4 ⟨W1.heap.size + 1, 1, none⟩ _ w.heap.size (fun e => by have : w.heap.size = W1.heap.size + 1 := e; omega)).trans HR4.out
     go_wp2_with (go_at_call 68; refine (z_cl _ _ t.flat.length ln 6 _ HCx.out (by omega)).mono ?_; rintro e w5 ⟨rfl, hc5, hg5⟩; obtain ⟨hb5, hr5⟩ := z_eR (p := W1.heap.size + 1) (by omega) HBx.out HRx.out hg5; have HB5 : Hid (Below w.heap.size w w5) := hb5; have HC5 : Hid (CObj w5 _ _ _ _ _) := hc5; obtain ⟨s0, s1, fs⟩ := hr5.cells; obtain ⟨u1, u2, u3, uf⟩ := HBox.out _ _ _ _ hc5; clear hb5 hc5 hg5 hr5 p1 p2 p3 pf r0 r1)
     refine bodyPost_ret (v := .agg #[.int .i64 ((t.flat.length : Int) + 1), .int .i64 6]) (by simp [results, Tryz.results31, go_sem, s0, s1]) rfl ?_
     exact HFin.out _ 0 _ 6 HB5.out (.inr ⟨by decide, HN.out⟩)
 ·have HN : Hid (¬ standB ls backL) := hn
  have hfb : (fb != 0) = true := by rw [bne, hf]; rfl
  have hf0 : fb ≠ 0 := by simpa using hf
  obtain ⟨r0, r1, fr⟩ := HR1.out.cells
  clear hn
  go_wp2
  refine bodyPost_ret (v := .agg #[.int .i64 fa, .int .i64 fb]) (by simp [results, Tryz.results31, go_sem, r0, r1, hw1]) rfl ?_
  exact ⟨_, _, rfl, ((HB1.out.setCell (p := ⟨w.heap.size, 0, none⟩) (Nat.le_refl _) _).setCell (p := ⟨w.heap.size, 1, none⟩) (Nat.le_refl _) _).alloc (by simp [World.setCell]; omega) _, .inr ⟨hf0, .inr (.inl HN.out)⟩⟩
theorem z_fS (ao : Option Addr) (cap : Nat) (ls : List Ln) (w : World) (hcap : ls.length ≤ cap) (hl : ls.length ≤ 1048576) (hi : LinesAt w.heap.size w ao ls) (hz : ∀ l ∈ ls, LnSz l) :
  Calls Tryz.prog 31 #[.slice ao ls.length cap] w fun e w' => ∃ a b : Int, e = .returned (.agg #[.int .i64 a, .int .i64 b]) ∧ Below w.heap.size w w' ∧ z_bV b ls := by
 by_cases h : 60 < ls.length
 ·exact z_e3 ao cap ls w hcap h hl
 ·exact z_fe ao cap ls w hcap (by omega) hi hz
end
end Go.Proofs.YtlbjjbolbopfmaaGreatDoor
