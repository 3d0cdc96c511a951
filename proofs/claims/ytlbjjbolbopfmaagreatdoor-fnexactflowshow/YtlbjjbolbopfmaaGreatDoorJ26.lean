import Derived.Test.YtlbjjbolbopfmaaGreatDoorJ23
import Derived.Test.YtlbjjbolbopfmaaGreatDoorJ10
import Derived.Test.YtlbjjbolbopfmaaGreatDoorJ17
import Derived.Deep.RegionLaw
import Derived.Deep.AppendLies
import Derived.Deep.RegionHeld3
namespace Go.Proofs.YtlbjjbolbopfmaaGreatDoor
set_option maxHeartbeats 4000000
set_option maxRecDepth 1000000
set_option linter.unusedVariables false
section
open Go.RowKit
theorem z_i5 (ao : Option Addr) (cap : Nat) (ss : List ByteArray) (w : World) (hl : ss.length ≤ 4398046511104) (hi : StrsAt 0 w.heap.size w ao ss) :
  Calls Tryz.prog 88 #[.slice ao ss.length cap] w fun e w' => ∃ v, e = .returned v ∧ Below w.heap.size w w' ∧ w'.ownsRow w.heap.size 9 1 v ss.length (strCells ss) := by
 obtain ⟨i0, hi0, hz0, hz1, hz2⟩ := info_parts Tryz.infoStr
 by_cases h0 : 0 < ss.length
 ·obtain ⟨b, off, rfl, hB, _⟩ := hi 0 h0
  have hcells : ∀ j u, (strCells ss)[j]? = some u → w.cell? ((⟨b, off, none⟩ : Addr).add j) = some u := z_b0 hi
  clear hi
  go_enter Tryz.func88, Tryz.ntmps88
  go_wp2_with (at_builtin; refine wpList_append_own _ rfl _ _ 45 rfl w.heap.size 9 i0 (.string ByteArray.empty) 1 16 Tryz.underlying45 hi0 hz0 hz1 hz2 rfl (by decide) _ _ _ rfl (World.ownsRow_nil _ _ _ _) ⟨b, off, none⟩ ss.length _ (strCells ss) rfl (by simp [strCells]) hcells (by intro u hu; simp [strCells] at hu; obtain ⟨a, _, rfl⟩ := hu; rfl) (by unfold maxLen; omega) (by omega) (Nat.le_refl _) ?_; intro v' w1 hown hgrow _)
  go_ret
  rw [Nat.zero_add, List.nil_append] at hown
  exact ⟨v', rfl, (Below.refl _ _).grown hgrow (Nat.le_refl _) (by intro k hk; cases hk), hown⟩
 ·have e : ss = [] := List.length_eq_zero_iff.1 (by omega)
  subst e
  cases ao with
  | none =>
   go_enter Tryz.func88, Tryz.ntmps88
   go_wp2
   go_ret
   exact ⟨_, rfl, Below.refl _ _, World.ownsRow_nil _ _ _ _⟩
  | some ad =>
   go_enter Tryz.func88, Tryz.ntmps88
   go_wp2_with (at_builtin; refine wpList_append_own _ rfl _ _ 45 rfl w.heap.size 9 i0 (.string ByteArray.empty) 1 16 Tryz.underlying45 hi0 hz0 hz1 hz2 rfl (by decide) _ _ _ rfl (World.ownsRow_nil _ _ _ _) ad 0 _ [] rfl rfl (by intro j u hj; simp at hj) (by intro u hu; simp at hu) (by unfold maxLen; omega) (by omega) (Nat.le_refl _) ?_; intro v' w1 hown hgrow _)
   go_ret
   exact ⟨v', rfl, (Below.refl _ _).grown hgrow (Nat.le_refl _) (by intro k hk; cases hk), hown⟩
theorem z_ko (k : Int) (w : World) : Calls Tryz.prog 148 #[.int .i64 k] w fun e w' => e = .returned (.int .i64 (z_cg k)) ∧ w' = w := by
 by_cases h2 : k = 2
 ·subst h2; go_enter Tryz.func148, Tryz.ntmps148; go_wp2; go_ret; exact ⟨rfl, rfl⟩
 by_cases h3 : k = 3
 ·subst h3; go_enter Tryz.func148, Tryz.ntmps148; go_wp2; go_ret; exact ⟨rfl, rfl⟩
 by_cases h4 : k = 4
 ·subst h4; go_enter Tryz.func148, Tryz.ntmps148; go_wp2; go_ret; exact ⟨rfl, rfl⟩
 by_cases h5 : k = 5
 ·subst h5; go_enter Tryz.func148, Tryz.ntmps148; go_wp2; go_ret; exact ⟨rfl, rfl⟩
 by_cases h6 : k = 6
 ·subst h6; go_enter Tryz.func148, Tryz.ntmps148; go_wp2; go_ret; exact ⟨rfl, rfl⟩
 by_cases h8 : k = 8
 ·subst h8; go_enter Tryz.func148, Tryz.ntmps148; go_wp2; go_ret; exact ⟨rfl, rfl⟩
 by_cases h14 : k = 14
 ·subst h14; go_enter Tryz.func148, Tryz.ntmps148; go_wp2; go_ret; exact ⟨rfl, rfl⟩
 by_cases h9 : k = 9
 ·subst h9; go_enter Tryz.func148, Tryz.ntmps148; go_wp2; go_ret; exact ⟨rfl, rfl⟩
 by_cases h12 : k = 12
 ·subst h12; go_enter Tryz.func148, Tryz.ntmps148; go_wp2; go_ret; exact ⟨rfl, rfl⟩
 by_cases h13 : k = 13
 ·subst h13; go_enter Tryz.func148, Tryz.ntmps148; go_wp2; go_ret; exact ⟨rfl, rfl⟩
 by_cases h15 : k = 15
 ·subst h15; go_enter Tryz.func148, Tryz.ntmps148; go_wp2; go_ret; exact ⟨rfl, rfl⟩
 have HN : Hid (z_cg k = 0) := by simp [Hid, z_cg, h2, h3, h4, h5, h6, h8, h14, h9, h12, h13, h15]
 have b2 : (k == 2) = false := beq_eq_false_iff_ne.2 h2
 have b3 : (k == 3) = false := beq_eq_false_iff_ne.2 h3
 have b4 : (k == 4) = false := beq_eq_false_iff_ne.2 h4
 have b5 : (k == 5) = false := beq_eq_false_iff_ne.2 h5
 have b6 : (k == 6) = false := beq_eq_false_iff_ne.2 h6
 have b8 : (k == 8) = false := beq_eq_false_iff_ne.2 h8
 have b14 : (k == 14) = false := beq_eq_false_iff_ne.2 h14
 have b9 : (k == 9) = false := beq_eq_false_iff_ne.2 h9
 have b12 : (k == 12) = false := beq_eq_false_iff_ne.2 h12
 have b13 : (k == 13) = false := beq_eq_false_iff_ne.2 h13
 have b15 : (k == 15) = false := beq_eq_false_iff_ne.2 h15
 clear h2 h3 h4 h5 h6 h8 h14 h9 h12 h13 h15
 go_enter Tryz.func148, Tryz.ntmps148
 go_wp2
 go_ret
 exact ⟨by rw [HN.out] <;> rfl, rfl⟩
end
section
open Go.RowKit
def stF' (p : Stp × Value) : List Value := stC p.1 p.2
theorem z_hw (p : Stp × Value) : (stF' p).length = 7 := rfl
structure MkSt (q base : Nat) (lo : Option Addr) (cap : Nat) (ls : List Ln) (w : World) (at_ : Nat) (v : Value) (ps : List (Stp × Value)) : Prop where
 obj : w.heap[q]? = some (.cells #[v, .slice lo ls.length cap, .int .i64 at_] 67 (0, 0))
 own : z_dm base w v ps
 lines : LinesAt q w lo ls
 qb : q < base
 bw : base ≤ w.heap.size
section
variable {q base : Nat} {lo : Option Addr} {cap : Nat} {ls : List Ln} {w w' : World} {at_ : Nat} {v v' : Value} {ps : List (Stp × Value)}
theorem MkSt.lt (h : MkSt q base lo cap ls w at_ v ps) : q < w.heap.size := (Array.getElem?_eq_some_iff.1 h.obj).1
theorem MkSt.c0 (h : MkSt q base lo cap ls w at_ v ps) : w.cell? ⟨q, 0, none⟩ = some v := by rw [cell_of_row _ _ 0 _ _ _ h.obj]; rfl
theorem MkSt.c1 (h : MkSt q base lo cap ls w at_ v ps) : w.cell? ⟨q, 1, none⟩ = some (.slice lo ls.length cap) := by rw [cell_of_row _ _ 1 _ _ _ h.obj]; rfl
theorem MkSt.c2 (h : MkSt q base lo cap ls w at_ v ps) : w.cell? ⟨q, 2, none⟩ = some (.int .i64 at_) := by rw [cell_of_row _ _ 2 _ _ _ h.obj]; rfl
theorem MkSt.fz (h : MkSt q base lo cap ls w at_ v ps) (j : Nat) : w.frozen? ⟨q, j, none⟩ = false := frozen_of_row _ _ j _ _ h.obj
theorem MkSt.row_lt (h : MkSt q base lo cap ls w at_ v ps) {k : Nat} (hk : v.ownBlock = some k) : base ≤ k ∧ k < w.heap.size := h.own.row.lt k hk
theorem MkSt.row_ne (h : MkSt q base lo cap ls w at_ v ps) {p : Stp × Value} (hp : p ∈ ps) {k : Nat} (hk : p.2.ownBlock = some k) : v.ownBlock ≠ some k := fun e => z_cD h.own.row (h.own.args p hp) (by decide) k e hk
theorem MkSt.below (h : MkSt q base lo cap ls w at_ v ps) (hb : Below w.heap.size w w') : MkSt q base lo cap ls w' at_ v ps :=
 ⟨(hb.block q h.lt).trans h.obj, h.own.below hb, h.lines.below (hb.mono (Nat.le_of_lt h.lt)), h.qb, Nat.le_trans h.bw hb.size⟩
theorem Wk.lines (hk : Wk q v.ownBlock w w') (h : MkSt q base lo cap ls w at_ v ps) : Below q w w' :=
 hk.below q (Nat.le_refl _) (Nat.le_of_lt h.lt) fun k e => by have := (h.row_lt e).1; have := h.qb; omega
end
theorem z_kc (q base : Nat) (lo : Option Addr) (cap : Nat) (ls : List Ln) (at_ : Nat) (v : Value) (ps : List (Stp × Value)) (w : World) (h : MkSt q base lo cap ls w at_ v ps) (hl : ps.length ≤ 1048576) :
  Calls Tryz.prog 106 #[.pointer (some ⟨q, 0, none⟩)] w fun e w' => e = .returned (.int .i64 ps.length) ∧ w' = w := by
 obtain ⟨vo, vc, rfl, _⟩ := z_aq h.own.row
 have c0 := h.c0
 clear h
 go_enter Tryz.func106, Tryz.ntmps106
 go_wp2
 go_ret
 exact ⟨rfl, rfl⟩
theorem z_l3 {q base : Nat} {lo : Option Addr} {cap : Nat} {ls : List Ln} {w : World} {at_ g vc i : Nat} {ps : List (Stp × Value)} (h : MkSt q base lo cap ls w at_ (.slice (some ⟨g, 0, none⟩) ps.length vc) ps) (hi : i < ps.length) (j : Nat) (hj : j < 7) (x : Value) (s : Stp) (hs : stC s ps[i].2 = (stC ps[i].1 ps[i].2).set j x) (ha : s.args = ps[i].1.args) :
  MkSt q base lo cap ls (w.setCell ⟨g, i * 7 + j, none⟩ x) at_ (.slice (some ⟨g, 0, none⟩) ps.length vc) (ps.set i (s, ps[i].2)) ∧ Wk q (Value.slice (some ⟨g, 0, none⟩) ps.length vc).ownBlock w (w.setCell ⟨g, i * 7 + j, none⟩ x) := by
 have hg := h.row_lt (k := g) rfl
 have hqb := h.qb
 have hgr : w.grownBy (w.setCell ⟨g, i * 7 + j, none⟩ x) (some g) := z_aj g _ _
 have hk : Wk q (Value.slice (some ⟨g, 0, none⟩) ps.length vc).ownBlock w (w.setCell ⟨g, i * 7 + j, none⟩ x) := Wk.of_grown hgr
 have hself : ps.set i ps[i] = ps := by
  apply List.ext_getElem (by simp)
  intro n h3 h4
  rw [List.getElem_set]
  split
  ·rename_i e; subst e; rfl
  ·rfl
 have hrow : w.ownsRow base 52 7 (.slice (some ⟨g, 0, none⟩) ps.length vc) ps.length ((ps.set i ps[i]).flatMap stF') := by
  rw [hself]; exact h.own.row
 have hrow2 := z_lD (q' := (s, ps[i].2)) z_hw hrow hi j hj x hs
 have hne : ps[i].2.ownBlock ≠ some g := fun e => h.row_ne (List.getElem_mem hi) e rfl
 refine ⟨⟨(hgr.block q h.lt (by simp; omega)).trans h.obj, h.own.step (by decide) hi (q := (s, ps[i].2)) rfl hrow2 ?_ (Inn.of_grown hgr fun k e => .inl e), h.lines.below (hk.lines h), hqb, Nat.le_trans h.bw hgr.size⟩, hk⟩
 have h2 := z_ad (j := i * 7 + j) (h.own.args _ (List.getElem_mem hi)) hne x
 show World.ownsRow _ _ _ _ _ _ _
 unfold stA at h2 ⊢
 rw [ha]; exact h2
def setA (s : Stp) (p : Int) : Stp := ⟨s.code, s.to, s.name, s.args, s.undo, p, s.b⟩
def setB (s : Stp) (p : Int) : Stp := ⟨s.code, s.to, s.name, s.args, s.undo, s.a, p⟩
theorem z_i8 {base : Nat} {w : World} {v : Value} {ps : List (Stp × Value)} (h : z_dm base w v ps) {i : Nat} (hi : i < ps.length) : ∃ g vc, v = .slice (some ⟨g, 0, none⟩) ps.length vc ∧ ps.length ≤ vc := by
 rcases h.row.2 with ⟨_, h⟩ | ⟨g, vc, cur, rfl, _, _, hn, _⟩
 ·omega
 ·exact ⟨g, vc, rfl, hn⟩
theorem z_lN (q base : Nat) (lo : Option Addr) (cap : Nat) (ls : List Ln) (at_ : Nat) (v : Value) (ps : List (Stp × Value)) (nb na i : Nat) (p : Int) (w : World) (h : MkSt q base lo cap ls w at_ v ps) (hl : ps.length ≤ 1048576) (hi : i < ps.length)
  (hb : w.cell? ⟨nb, 0, none⟩ = some (.pointer (some ⟨q, 0, none⟩))) (ha : w.cell? ⟨na, 0, none⟩ = some (.int .i64 i)) :
  Calls Tryz.prog 146 #[.int .i64 p, .pointer (some ⟨nb, 0, none⟩), .pointer (some ⟨na, 0, none⟩)] w fun e w' => e = .returned (.tuple #[]) ∧ MkSt q base lo cap ls w' at_ v (ps.set i (setA ps[i].1 p, ps[i].2)) ∧ Wk q v.ownBlock w w' := by
 obtain ⟨g, vc, rfl, hvc⟩ := z_i8 h.own hi
 have HF : Hid (MkSt q base lo cap ls (w.setCell ⟨g, i * 7 + 5, none⟩ (.int .i64 p)) at_ (.slice (some ⟨g, 0, none⟩) ps.length vc) (ps.set i (setA ps[i].1 p, ps[i].2)) ∧ Wk q (Value.slice (some ⟨g, 0, none⟩) ps.length vc).ownBlock w (w.setCell ⟨g, i * 7 + 5, none⟩ (.int .i64 p))) := z_l3 h hi 5 (by decide) _ _ rfl rfl
 have c0 := h.c0
 have cx := h.own.cell (fun _ _ => rfl) rfl i 5 hi (by decide) _ rfl
 have fx := h.own.row.frozenAt
 clear h
 go_enter Tryz.func146, Tryz.ntmps146
 go_wp2_with fail
 go_region
 all_goals
  go_wp2
  go_end0
  exact ⟨rfl, HF.out.1.below (Below.refl _ _).drew, HF.out.2.trans (Wk.of_below (row := (Value.slice (some ⟨g, 0, none⟩) ps.length vc).ownBlock) (Below.refl _ _).drew) (.inl rfl)⟩
theorem z_l6 (q base : Nat) (lo : Option Addr) (cap : Nat) (ls : List Ln) (at_ : Nat) (v : Value) (ps : List (Stp × Value)) (nb na i : Nat) (p : Int) (w : World) (h : MkSt q base lo cap ls w at_ v ps) (hl : ps.length ≤ 1048576) (hi : i < ps.length)
  (hb : w.cell? ⟨nb, 0, none⟩ = some (.pointer (some ⟨q, 0, none⟩))) (ha : w.cell? ⟨na, 0, none⟩ = some (.int .i64 i)) :
  Calls Tryz.prog 147 #[.int .i64 p, .pointer (some ⟨nb, 0, none⟩), .pointer (some ⟨na, 0, none⟩)] w fun e w' => e = .returned (.tuple #[]) ∧ MkSt q base lo cap ls w' at_ v (ps.set i (setB ps[i].1 p, ps[i].2)) ∧ Wk q v.ownBlock w w' := by
 obtain ⟨g, vc, rfl, hvc⟩ := z_i8 h.own hi
 have HF : Hid (MkSt q base lo cap ls (w.setCell ⟨g, i * 7 + 6, none⟩ (.int .i64 p)) at_ (.slice (some ⟨g, 0, none⟩) ps.length vc) (ps.set i (setB ps[i].1 p, ps[i].2)) ∧ Wk q (Value.slice (some ⟨g, 0, none⟩) ps.length vc).ownBlock w (w.setCell ⟨g, i * 7 + 6, none⟩ (.int .i64 p))) := z_l3 h hi 6 (by decide) _ _ rfl rfl
 have c0 := h.c0
 have cx := h.own.cell (fun _ _ => rfl) rfl i 6 hi (by decide) _ rfl
 have fx := h.own.row.frozenAt
 clear h
 go_enter Tryz.func147, Tryz.ntmps147
 go_wp2_with fail
 go_region
 all_goals
  go_wp2
  go_end0
  exact ⟨rfl, HF.out.1.below (Below.refl _ _).drew, HF.out.2.trans (Wk.of_below (row := (Value.slice (some ⟨g, 0, none⟩) ps.length vc).ownBlock) (Below.refl _ _).drew) (.inl rfl)⟩
end
section
open Go.RowKit
theorem Tryz.infoSt : (Tryz.prog.info? 52).map (fun i => (i.zero, i.size, i.bytes)) = some (some (.agg #[.int .i64 0, .string ⟨#[]⟩, .string ⟨#[]⟩, .slice none 0 0, .string ⟨#[]⟩, .int .i64 0, .int .i64 0]), 7, 96) := by kernel_rfl
theorem z_md {q base : Nat} {lo : Option Addr} {cap : Nat} {ls : List Ln} {at_ : Nat} {v : Value} {ps : List (Stp × Value)} {w w3 : World} {o : Obj} (h : MkSt q base lo cap ls w at_ v ps) (hg : (w.alloc o).drew.grownBy w3 v.ownBlock) :
  w3.heap[q]? = w.heap[q]? ∧ (∀ j, w3.frozen? ⟨q, j, none⟩ = false) ∧ w3.cell? ⟨q, 0, none⟩ = some v := by
 have hne : some q ≠ v.ownBlock := fun e => by have := (h.row_lt e.symm).1; have := h.qb; omega
 have hb : Below w.heap.size w (w.alloc o).drew := ((Below.refl _ _).alloc (Nat.le_refl _) _).drew
 have h1 : w3.heap[q]? = w.heap[q]? := (hg.block q (by have := h.lt; simp; omega) hne).trans (hb.block q h.lt)
 exact ⟨h1, fun j => (World.frozen?_of_block (a := ⟨q, j, none⟩) h1).trans (h.fz j), (World.cell?_of_block (a := ⟨q, 0, none⟩) h1).trans h.c0⟩
theorem z_lF {v : Value} {w w3 : World} {o : Obj} (hg : (w.alloc o).drew.grownBy w3 v.ownBlock) {k : Nat} (hk : k < w.heap.size) (hn : v.ownBlock ≠ some k) (j : Nat) : w3.cell? ⟨k, j, none⟩ = w.cell? ⟨k, j, none⟩ := by
 have hb : Below w.heap.size w (w.alloc o).drew := ((Below.refl _ _).alloc (Nat.le_refl _) _).drew
 exact World.cell?_of_block (a := ⟨k, j, none⟩) ((hg.block k (by simp; omega) (fun e => hn e.symm)).trans (hb.block k hk))
theorem z_ic {v : Value} {w w3 : World} {o : Obj} (hg : (w.alloc o).drew.grownBy w3 v.ownBlock) {k : Nat} (hk : k < w.heap.size) (hn : v.ownBlock ≠ some k) : w3.heap[k]? = w.heap[k]? := by
 have hb : Below w.heap.size w (w.alloc o).drew := ((Below.refl _ _).alloc (Nat.le_refl _) _).drew
 exact (hg.block k (by simp; omega) (fun e => hn e.symm)).trans (hb.block k hk)
theorem z_mF {q base : Nat} {lo : Option Addr} {cap : Nat} {ls : List Ln} {at_ : Nat} {v u : Value} {ps : List (Stp × Value)} {s : Stp} {w w3 : World} {o : Obj} {g c : Nat} (h : MkSt q base lo cap ls w at_ v ps) (hu : w.ownsRow base 9 1 u s.args.length (strCells s.args)) (hap : ∀ p ∈ ps, ∀ k, p.2.ownBlock = some k → u.ownBlock ≠ some k)
  (hown : w3.ownsRow base 52 7 (.slice (some ⟨g, 0, none⟩) (ps.length + 1) c) (ps.length + 1) ((ps.flatMap fun p => stC p.1 p.2) ++ stC s u)) (hg : (w.alloc o).drew.grownBy w3 v.ownBlock) (hat : v.ownBlock = some g ∨ g = w.heap.size + 1) :
  MkSt q base lo cap ls (w3.setCell ⟨q, 0, none⟩ (.slice (some ⟨g, 0, none⟩) (ps.length + 1) c)) at_ (.slice (some ⟨g, 0, none⟩) (ps.length + 1) c) (ps ++ [(s, u)]) ∧ Wk q v.ownBlock w (w3.setCell ⟨q, 0, none⟩ (.slice (some ⟨g, 0, none⟩) (ps.length + 1) c)) ∧ RowTo w v (.slice (some ⟨g, 0, none⟩) (ps.length + 1) c) := by
 have hb : Below w.heap.size w (w.alloc o).drew := ((Below.refl _ _).alloc (Nat.le_refl _) _).drew
 obtain ⟨hq3, _, _⟩ := z_md h hg
 have hgb : base ≤ g := (hown.lt g rfl).1
 have hqb := h.qb
 have hk3 : Wk q v.ownBlock w w3 := (Wk.of_below (row := v.ownBlock) hb).trans (Wk.of_grown hg) (.inl rfl)
 have hk : Wk q v.ownBlock w (w3.setCell ⟨q, 0, none⟩ (.slice (some ⟨g, 0, none⟩) (ps.length + 1) c)) := hk3.trans (Wk.of_set (row := v.ownBlock) 0 _) (.inl rfl)
 have far : ∀ (n : Nat) (x : Value) (xs : List Value), w.ownsRow base 9 1 x n xs → (w3.setCell ⟨q, 0, none⟩ (.slice (some ⟨g, 0, none⟩) (ps.length + 1) c)).ownsRow base 9 1 x n xs := fun n x xs hx => by
  refine z_ad (z_b9 hx fun k hk' => hk3.block k (hx.lt k hk').2 ?_ ?_) (fun e => by have := (hx.lt q e).1; omega) _
  ·have := (hx.lt k hk').1; omega
  ·intro e; exact z_cD h.own.row hx (by decide) k e.symm hk'
 refine ⟨⟨?_, ⟨?_, fun p hp => ?_, ?_⟩, h.lines.below (hk.lines h), hqb, Nat.le_trans h.bw hk.size⟩, hk, ?_⟩
 ·exact heap_setCell_same w3 q 0 _ _ _ (hq3.trans h.obj)
 ·have h1 := z_ad (g := q) (j := 0) hown (by simp [Value.ownBlock]; omega) (.slice (some ⟨g, 0, none⟩) (ps.length + 1) c)
  have e : ((ps ++ [(s, u)]).flatMap fun p : Stp × Value => stC p.1 p.2) = (ps.flatMap fun p => stC p.1 p.2) ++ stC s u := by rw [List.flatMap_append]; simp
  rw [List.length_append, e]; exact h1
 ·rcases List.mem_append.1 hp with hp | hp
  ·exact far _ _ _ (h.own.args p hp)
  ·have : p = (s, u) := by simpa using hp
   subst this
   exact far _ _ _ hu
 ·exact z_ec h.own.apart fun p hp k hk' => hap p hp k hk'
 ·rcases hat with e | e
  ·exact .inl (by rw [e]; rfl)
  ·exact .inr fun k hk' => by
    have : g = k := by simpa [Value.ownBlock] using hk'
    omega
theorem z_m8 (q base : Nat) (lo : Option Addr) (cap : Nat) (ls : List Ln) (at_ : Nat) (v : Value) (ps : List (Stp × Value)) (s : Stp) (uo : Option Addr) (uc : Nat) (w : World) (h : MkSt q base lo cap ls w at_ v ps) (hl : ps.length ≤ 100000)
  (hu : w.ownsRow base 9 1 (.slice uo s.args.length uc) s.args.length (strCells s.args)) (hap : ∀ p ∈ ps, ∀ k, p.2.ownBlock = some k → (Value.slice uo s.args.length uc).ownBlock ≠ some k) :
  Calls Tryz.prog 107 #[.pointer (some ⟨q, 0, none⟩), .agg #[.int .i64 s.code, .string s.to, .string s.name, .slice uo s.args.length uc, .string s.undo, .int .i64 s.a, .int .i64 s.b]] w fun e w' => ∃ v', e = .returned (.tuple #[.func (.func 146) #[] #[.pointer (some ⟨w.heap.size, 0, none⟩), .pointer (some ⟨w.heap.size + 1 + 1, 0, none⟩)], .func (.func 147) #[] #[.pointer (some ⟨w.heap.size, 0, none⟩), .pointer (some ⟨w.heap.size + 1 + 1, 0, none⟩)]])
   ∧ MkSt q base lo cap ls w' at_ v' (ps ++ [(s, .slice uo s.args.length uc)]) ∧ Wk q v.ownBlock w w' ∧ RowTo w v v' ∧ w'.heap[w.heap.size]? = some (.cells #[.pointer (some ⟨q, 0, none⟩)] 200 (0, 0)) ∧ w'.heap[w.heap.size + 1 + 1]? = some (.cells #[.int .i64 ps.length] 3 (0, 0)) ∧ w.heap.size + 3 ≤ w'.heap.size := by
 obtain ⟨i0, hi0, hz0, hz1, hz2⟩ := info_parts Tryz.infoSt
 obtain ⟨vo, vc, rfl, hvc⟩ := z_aq h.own.row
 have HM : Hid (MkSt q base lo cap ls w at_ (.slice vo ps.length vc) ps) := h
 have HU : Hid (w.ownsRow base 9 1 (.slice uo s.args.length uc) s.args.length (strCells s.args)) := hu
 have HAp : Hid (∀ p ∈ ps, ∀ k, p.2.ownBlock = some k → (Value.slice uo s.args.length uc).ownBlock ≠ some k) := hap
 have hq := h.lt
 have hqb := h.qb
 have hbw := h.bw
 have c0 := h.c0
 have f0 := h.fz
 obtain ⟨sc, st, sn, sa, su, fa, fb⟩ := s
 simp only at HU HAp ⊢
 clear h hu hap
 go_enter Tryz.func107, Tryz.ntmps107
 go_wp2_with (go_at_call 106; refine (z_kc q base lo cap ls at_ _ ps _ (HM.out.below (((Below.refl _ _).alloc (Nat.le_refl _) _).alloc (by simp) _)) (by omega)).mono ?_; rintro e wx ⟨rfl, rfl⟩)
 obtain ⟨W1, hW1⟩ : ∃ W1, W1 = (((w.alloc (.cells #[.pointer (some ⟨q, 0, none⟩)] 200)).alloc (.cells #[.int .i64 sc, .string st, .string sn, .slice uo sa.length uc, .string su, .int .i64 fa, .int .i64 fb] 52)).alloc (.cells #[.int .i64 ps.length] 3)) := ⟨_, rfl⟩
 rw [← hW1]
 have hb1 : Below w.heap.size w W1 := by rw [hW1]; exact (((Below.refl _ _).alloc (Nat.le_refl _) _).alloc (by simp) _).alloc (by simp; omega) _
 have hsz1 : W1.heap.size = w.heap.size + 3 := by rw [hW1]; simp
 have x0 : W1.cell? ⟨w.heap.size, 0, none⟩ = some (.pointer (some ⟨q, 0, none⟩)) := by rw [hW1]; simp [go_sem]
 have y0 : W1.cell? ⟨w.heap.size + 1, 0, none⟩ = some (.int .i64 sc) := by rw [hW1]; simp [go_sem]
 have y1 : W1.cell? ⟨w.heap.size + 1, 1, none⟩ = some (.string st) := by rw [hW1]; simp [go_sem]
 have y2 : W1.cell? ⟨w.heap.size + 1, 2, none⟩ = some (.string sn) := by rw [hW1]; simp [go_sem]
 have y3 : W1.cell? ⟨w.heap.size + 1, 3, none⟩ = some (.slice uo sa.length uc) := by rw [hW1]; simp [go_sem]
 have y4 : W1.cell? ⟨w.heap.size + 1, 4, none⟩ = some (.string su) := by rw [hW1]; simp [go_sem]
 have y5 : W1.cell? ⟨w.heap.size + 1, 5, none⟩ = some (.int .i64 fa) := by rw [hW1]; simp [go_sem]
 have y6 : W1.cell? ⟨w.heap.size + 1, 6, none⟩ = some (.int .i64 fb) := by rw [hW1]; simp [go_sem]
 have a0 : W1.cell? ⟨w.heap.size + 1 + 1, 0, none⟩ = some (.int .i64 ps.length) := by rw [hW1]; simp [go_sem]
 have HA0 : Hid (W1.heap[w.heap.size + 1 + 1]? = some (.cells #[.int .i64 ps.length] 3 (0, 0))) := by
  rw [hW1]
  have h := heap_alloc_new ((w.alloc (.cells #[.pointer (some ⟨q, 0, none⟩)] 200)).alloc (.cells #[.int .i64 sc, .string st, .string sn, .slice uo sa.length uc, .string su, .int .i64 fa, .int .i64 fb] 52)) (.cells #[.int .i64 ps.length] 3)
  rw [World.size_alloc, World.size_alloc] at h
  exact h
 have HX0 : Hid (W1.heap[w.heap.size]? = some (.cells #[.pointer (some ⟨q, 0, none⟩)] 200 (0, 0))) := by
  rw [hW1]
  exact (Below.heap_alloc _ _ _ (by simp; omega)).trans ((Below.heap_alloc _ _ _ (by simp)).trans (heap_alloc_new w _))
 have q0 := (hb1.cell (p := ⟨q, 0, none⟩) hq).trans c0
 have g0 := fun j => (hb1.frozen (p := ⟨q, j, none⟩) hq).trans (f0 j)
 have HM1 : Hid (MkSt q base lo cap ls W1 at_ (.slice vo ps.length vc) ps) := HM.out.below hb1
 have HU1 : Hid (W1.ownsRow base 9 1 (.slice uo sa.length uc) sa.length (strCells sa)) := z_ax HU.out hb1
 have HB1 : Hid (Below w.heap.size w W1) := hb1
 have hlt1 : q < W1.heap.size := by omega
 have hb0 : base ≤ W1.heap.size := by omega
 have HNB : Hid ((Value.slice vo ps.length vc).ownBlock ≠ some w.heap.size) := fun e => by have := (HM.out.row_lt e).2; omega
 have HNA : Hid ((Value.slice vo ps.length vc).ownBlock ≠ some (w.heap.size + 1 + 1)) := fun e => by have := (HM.out.row_lt e).2; omega
 have HSZ : Hid (W1.heap.size = w.heap.size + 3) := hsz1
 have ht0 : w.heap.size < W1.heap.size := by omega
 have ht1 : w.heap.size + 1 < W1.heap.size := by omega
 have ht2 : w.heap.size + 1 + 1 < W1.heap.size := by omega
 clear hW1 hb1 c0 f0 a0 hsz1
 go_region_law (refine step_append_lies _ (by rfl) _ _ _ (by rfl) base 52 i0 _ 7 96 Tryz.underlying24 hi0 hz0 hz1 hz2 rfl (by omega) (.slice vo ps.length vc) ps.length _ (by rfl) ((HM1.out.own.row.alloc _).drew) ⟨W1.heap.size, 0, none⟩ 1 1 [.int .i64 sc, .string st, .string sn, .slice uo sa.length uc, .string su, .int .i64 fa, .int .i64 fb] (by rfl) (by rfl) (World.news_of_block (cs := #[.int .i64 sc, .string st, .string sn, .slice uo sa.length uc, .string su, .int .i64 fa, .int .i64 fb]) (t := 52) (fr := (0, 0)) (heap_alloc_new W1 _)) (by simp [Value.oneCell']) (by omega) (by unfold maxLen; omega) (by omega) (by simp; omega) (W1.heap.size + 1) (by simp) ?_; intro gg c3 w3 hown3 hgrow hat hlt3; obtain ⟨hq3, hf3, hc3⟩ := z_md HM1.out hgrow; have x3 := (z_lF hgrow ht0 HNB.out 0).trans x0)
 all_goals
  have hA : Hid (w3.heap[w.heap.size + 1 + 1]? = some (.cells #[.int .i64 ps.length] 3 (0, 0))) := (z_ic hgrow ht2 HNA.out).trans HA0.out
  have HF : Hid (MkSt q base lo cap ls (w3.setCell ⟨q, 0, none⟩ (.slice (some ⟨gg, 0, none⟩) (ps.length + 1) c3)) at_ (.slice (some ⟨gg, 0, none⟩) (ps.length + 1) c3) (ps ++ [(⟨sc, st, sn, sa, su, fa, fb⟩, .slice uo sa.length uc)]) ∧ Wk q (Value.slice vo ps.length vc).ownBlock W1 (w3.setCell ⟨q, 0, none⟩ (.slice (some ⟨gg, 0, none⟩) (ps.length + 1) c3)) ∧ RowTo W1 (.slice vo ps.length vc) (.slice (some ⟨gg, 0, none⟩) (ps.length + 1) c3)) := z_mF (s := ⟨sc, st, sn, sa, su, fa, fb⟩) HM1.out HU1.out HAp.out hown3 hgrow hat
  have hX : Hid (w3.heap[w.heap.size]? = some (.cells #[.pointer (some ⟨q, 0, none⟩)] 200 (0, 0))) := (z_ic hgrow ht0 HNB.out).trans HX0.out
  have hqn : q ≠ w.heap.size := by omega
  have hqn2 : q ≠ w.heap.size + 1 + 1 := by omega
  clear hown3 hgrow hat
  go_wp2
  refine bodyPost_ret (v := .tuple #[.func (.func 146) #[] #[.pointer (some ⟨w.heap.size, 0, none⟩), .pointer (some ⟨w.heap.size + 1 + 1, 0, none⟩)], .func (.func 147) #[] #[.pointer (some ⟨w.heap.size, 0, none⟩), .pointer (some ⟨w.heap.size + 1 + 1, 0, none⟩)]]) (by simp [results, Tryz.results107, go_sem]) rfl ?_
  refine ⟨_, rfl, HF.out.1, (Wk.of_below (row := (Value.slice vo ps.length vc).ownBlock) HB1.out).trans HF.out.2.1 (.inl rfl), RowTo.refl.trans HF.out.2.2 HB1.out.size, ?_, ?_, ?_⟩
  ·exact (Below.heap_setCell w3 _ _ _ (fun e => hqn e.symm)).trans hX.out
  ·exact (Below.heap_setCell w3 _ _ _ (fun e => hqn2 e.symm)).trans hA.out
  ·have h1 := HF.out.2.1.size
   have h2 := HSZ.out
   omega
end
section
open Go.RowKit
theorem z_k1 {w W w1 : World} {a0 a1 a2 a3 a4 b0 b1 b2 b3 b4 b5 b6 : Value} {s t : TypeId} {n : Nat} (hW : W = ((w.alloc (.cells #[a0, a1, a2, a3, a4] s)).alloc (.cells #[b0, b1, b2, b3, b4, b5, b6] t)).drewN n) (h : Below W.heap.size W w1) :
  Hid (Below w.heap.size w w1) ∧ (w.heap.size + 1 < w1.heap.size) ∧ (w1.cell? ⟨w.heap.size, 0, none⟩ = some a0 ∧ w1.cell? ⟨w.heap.size, 1, none⟩ = some a1 ∧ w1.cell? ⟨w.heap.size, 2, none⟩ = some a2 ∧ w1.cell? ⟨w.heap.size, 3, none⟩ = some a3 ∧ w1.cell? ⟨w.heap.size, 4, none⟩ = some a4)
  ∧ (w1.cell? ⟨w.heap.size + 1, 0, none⟩ = some b0 ∧ w1.cell? ⟨w.heap.size + 1, 1, none⟩ = some b1 ∧ w1.cell? ⟨w.heap.size + 1, 2, none⟩ = some b2 ∧ w1.cell? ⟨w.heap.size + 1, 3, none⟩ = some b3 ∧ w1.cell? ⟨w.heap.size + 1, 4, none⟩ = some b4 ∧ w1.cell? ⟨w.heap.size + 1, 5, none⟩ = some b5 ∧ w1.cell? ⟨w.heap.size + 1, 6, none⟩ = some b6) ∧ (∀ j, w1.frozen? ⟨w.heap.size + 1, j, none⟩ = false) := by
 have e : W.heap.size = w.heap.size + 1 + 1 := by rw [hW]; simp [World.drewN]
 rw [e] at h
 have hB0 : Below w.heap.size w W := by rw [hW]; exact z_aa (((Below.refl _ _).alloc (Nat.le_refl _) _).alloc (by simp) _) n
 have hc0 := fun j => h.cell (p := ⟨w.heap.size, j, none⟩) (by show w.heap.size < w.heap.size + 1 + 1; omega)
 have hc1 := fun j => h.cell (p := ⟨w.heap.size + 1, j, none⟩) (by show w.heap.size + 1 < w.heap.size + 1 + 1; omega)
 have hf1 := fun j => h.frozen (p := ⟨w.heap.size + 1, j, none⟩) (by show w.heap.size + 1 < w.heap.size + 1 + 1; omega)
 subst hW
 refine ⟨hB0.trans (h.mono (by omega)), by have := h.size; rw [e] at this; omega, ⟨?_, ?_, ?_, ?_, ?_⟩, ⟨?_, ?_, ?_, ?_, ?_, ?_, ?_⟩, fun j => ?_⟩
 all_goals first | (rw [hc0]; simp [go_sem]; done) | (rw [hc1]; simp [go_sem]; done) | (rw [hf1]; simp [go_sem]; done)
theorem z_db (l : Ln) (ao : Option Addr) (cap : Nat) (w : World) (hl : l.2.args.length ≤ 1048576) (hi : StrsAt 0 w.heap.size w ao l.2.args) :
  Calls Tryz.prog 108 #[.agg #[.int .i64 l.1, .string l.2.to, .string l.2.name, .slice ao l.2.args.length cap, .string l.2.undo]] w fun e w' => ∃ uo uc, e = .returned (.agg #[.int .i64 (z_cg l.1), .string l.2.to, .string l.2.name, .slice uo l.2.args.length uc, .string l.2.undo, .int .i64 0, .int .i64 0]) ∧ Below w.heap.size w w' ∧ w'.ownsRow w.heap.size 9 1 (.slice uo l.2.args.length uc) l.2.args.length (strCells l.2.args) := by
 have HI : Hid (StrsAt 0 w.heap.size w ao l.2.args) := hi
 clear hi
 obtain ⟨k, d⟩ := l
 simp only at HI hl ⊢
 go_enter Tryz.func108, Tryz.ntmps108
 go_wp2_with fail
 go_region_held3 (fun wx => wx.cell? ⟨w.heap.size, 0, none⟩ = some (.int .i64 k) ∧ wx.cell? ⟨w.heap.size, 1, none⟩ = some (.string d.to) ∧ wx.cell? ⟨w.heap.size, 2, none⟩ = some (.string d.name) ∧ wx.cell? ⟨w.heap.size, 3, none⟩ = some (.slice ao d.args.length cap) ∧ wx.cell? ⟨w.heap.size, 4, none⟩ = some (.string d.undo))
  (first | (go_keep; done) | exact ⟨x0, x1, x2, x3, x4⟩)
  (first
   | (go_at_call 148; refine (z_ko k _).mono ?_; rintro e wx ⟨rfl, rfl⟩)
   | (go_at_call 88; refine (z_i5 ao cap d.args _ (by omega) (HI.out.later ((((Below.refl _ _).alloc (Nat.le_refl _) _).alloc (by simp) _).drew))).mono ?_; rintro e w1 ⟨u, rfl, hb1, hu1⟩; obtain ⟨uo, uc, rfl, huc⟩ := z_aq hu1; obtain ⟨HB1, hz1, ⟨x0, x1, x2, x3, x4⟩, ⟨y0, y1, y2, y3, y4, y5, y6⟩, fy⟩ := z_k1 (n := 1) rfl hb1; have HU1 : Hid (w1.ownsRow _ 9 1 (.slice uo d.args.length uc) d.args.length (strCells d.args)) := hu1; clear hb1 hu1))
 all_goals
  go_wp2
  refine bodyPost_ret (v := .agg #[.int .i64 (z_cg k), .string d.to, .string d.name, .slice uo d.args.length uc, .string d.undo, .int .i64 0, .int .i64 0]) (by simp [results, Tryz.results108, go_sem, y0, y1, y2, y3, y4, y5, y6]) rfl ?_
  have hne : (Value.slice uo d.args.length uc).ownBlock ≠ some (w.heap.size + 1) := fun e => by have := (HU1.out.lt _ e).1; simp at this; omega
  have hu := z_ad (j := 6) (z_ad (j := 5) (z_ad (j := 4) (z_ad (j := 3) (z_ad (j := 2) (z_ad (j := 1) (z_ad (j := 0) (z_bh HU1.out (by simp; omega : w.heap.size ≤ _)) hne (.int .i64 (z_cg k))) hne (.string d.to)) hne (.string d.name)) hne (.slice uo d.args.length uc)) hne (.string d.undo)) hne (.int .i64 0)) hne (.int .i64 0)
  have hle : w.heap.size ≤ w.heap.size + 1 := Nat.le_succ _
  have hb := ((((((HB1.out.setCell (p := ⟨w.heap.size + 1, 0, none⟩) hle (.int .i64 (z_cg k))).setCell (p := ⟨w.heap.size + 1, 1, none⟩) hle (.string d.to)).setCell (p := ⟨w.heap.size + 1, 2, none⟩) hle (.string d.name)).setCell (p := ⟨w.heap.size + 1, 3, none⟩) hle (.slice uo d.args.length uc)).setCell (p := ⟨w.heap.size + 1, 4, none⟩) hle (.string d.undo)).setCell (p := ⟨w.heap.size + 1, 5, none⟩) hle (.int .i64 0)).setCell (p := ⟨w.heap.size + 1, 6, none⟩) hle (.int .i64 0)
  exact ⟨uo, uc, rfl, hb, hu⟩
end
section
open Go.RowKit
def FillB (q : Nat) (w : World) (nb na i : Nat) : Prop := w.heap[nb]? = some (.cells #[.pointer (some ⟨q, 0, none⟩)] 200 (0, 0)) ∧ w.heap[na]? = some (.cells #[.int .i64 i] 3 (0, 0))
section
variable {q base : Nat} {lo : Option Addr} {cap : Nat} {ls : List Ln} {w w' w'' : World} {at_ nb na i : Nat} {v v' : Value} {ps : List (Stp × Value)}
theorem MkSt.other (hm : MkSt q base lo cap ls w at_ v ps) {k : Nat} {cs : Array Value} {t : TypeId} {f : Nat × Nat} (hk : w.heap[k]? = some (.cells cs t f)) (h1 : t ≠ 67) (h2 : t ≠ 52) : k < w.heap.size ∧ k ≠ q ∧ v.ownBlock ≠ some k := by
 refine ⟨(Array.getElem?_eq_some_iff.1 hk).1, fun e => ?_, fun e => ?_⟩
 ·subst e
  have h := hm.obj
  rw [hk] at h
  simp at h
  exact h1 h.2.1
 ·rcases hm.own.row.2 with ⟨rfl, _⟩ | ⟨g, vc, cur, rfl, _, hg, _⟩
  ·simp [Value.ownBlock] at e
  ·simp [Value.ownBlock] at e
   subst e
   rw [hk] at hg
   simp at hg
   exact h2 hg.2.1
theorem FillB.blk (h : FillB q w nb na i) (hm : MkSt q base lo cap ls w at_ v ps) : (nb < w.heap.size ∧ nb ≠ q ∧ v.ownBlock ≠ some nb) ∧ (na < w.heap.size ∧ na ≠ q ∧ v.ownBlock ≠ some na) :=
 ⟨hm.other h.1 (by decide) (by decide), hm.other h.2 (by decide) (by decide)⟩
theorem FillB.keep (h : FillB q w nb na i) (hm : MkSt q base lo cap ls w at_ v ps) (hk : Wk q v.ownBlock w w') : FillB q w' nb na i := by
 obtain ⟨⟨a1, a2, a3⟩, ⟨b1, b2, b3⟩⟩ := h.blk hm
 exact ⟨(hk.block nb a1 a2 (fun e => a3 e.symm)).trans h.1, (hk.block na b1 b2 (fun e => b3 e.symm)).trans h.2⟩
theorem FillB.below (h : FillB q w nb na i) (hb : Below w.heap.size w w') : FillB q w' nb na i :=
 ⟨(hb.block nb (Array.getElem?_eq_some_iff.1 h.1).1).trans h.1, (hb.block na (Array.getElem?_eq_some_iff.1 h.2).1).trans h.2⟩
theorem FillB.c0 (h : FillB q w nb na i) : w.cell? ⟨nb, 0, none⟩ = some (.pointer (some ⟨q, 0, none⟩)) := by rw [cell_of_row _ _ 0 _ _ _ h.1]; rfl
theorem FillB.c1 (h : FillB q w nb na i) : w.cell? ⟨na, 0, none⟩ = some (.int .i64 i) := by rw [cell_of_row _ _ 0 _ _ _ h.2]; rfl
theorem MkSt.set2 (h : MkSt q base lo cap ls w at_ v ps) (n : Nat) : MkSt q base lo cap ls (w.setCell ⟨q, 2, none⟩ (.int .i64 n)) n v ps :=
 ⟨heap_setCell_same w q 2 _ _ _ h.obj, h.own.keep fun k hk => Below.heap_setCell w _ _ k (fun e => by have h1 : k = q := e; have := (h.own.lt hk).1; have := h.qb; omega), h.lines.below ((Below.refl q w).setCell (p := ⟨q, 2, none⟩) (Nat.le_refl q) _), h.qb, by simpa [World.setCell] using h.bw⟩
end
theorem z_mf {α : Type} (ps qs : List α) (x : α) : ps.length < (ps ++ x :: qs).length := by simp
theorem z_jd {α : Type} (ps qs : List α) (x : α) (h : ps.length < (ps ++ x :: qs).length) : (ps ++ x :: qs)[ps.length] = x := by
 rw [List.getElem_append_right (Nat.le_refl _)]; simp
theorem z_gX {α : Type} (ps qs : List α) (x y : α) : (ps ++ x :: qs).set ps.length y = ps ++ y :: qs := by
 rw [List.set_append_right _ _ (Nat.le_refl _)]; simp
def z_l9 (q base : Nat) (lo : Option Addr) (cap : Nat) (ls : List Ln) (at_ : Nat) (v : Value) (w : World) (ps : List (Stp × Value)) (e : Ending) (w' : World) : Prop :=
 e = .returned (.tuple #[]) ∧ MkSt q base lo cap ls w' at_ v ps ∧ Wk q v.ownBlock w w'
theorem z_co (q base : Nat) (lo : Option Addr) (cap : Nat) (ls : List Ln) (at_ : Nat) (v : Value) (ps qs : List (Stp × Value)) (x : Stp × Value) (nb na : Nat) (p : Int) (w : World) (h : MkSt q base lo cap ls w at_ v (ps ++ x :: qs)) (hf : FillB q w nb na ps.length) (hl : (ps ++ x :: qs).length ≤ 1048576) :
  Calls Tryz.prog 146 #[.int .i64 p, .pointer (some ⟨nb, 0, none⟩), .pointer (some ⟨na, 0, none⟩)] w (z_l9 q base lo cap ls at_ v w (ps ++ (setA x.1 p, x.2) :: qs)) := by
 refine (z_lN q base lo cap ls at_ v _ nb na ps.length p w h hl (z_mf _ _ _) hf.c0 hf.c1).mono ?_
 rintro e w' ⟨rfl, h1, h2⟩
 rw [z_jd, z_gX] at h1
 exact ⟨rfl, h1, h2⟩
theorem z_dR (q base : Nat) (lo : Option Addr) (cap : Nat) (ls : List Ln) (at_ : Nat) (v : Value) (ps qs : List (Stp × Value)) (x : Stp × Value) (nb na : Nat) (p : Int) (w : World) (h : MkSt q base lo cap ls w at_ v (ps ++ x :: qs)) (hf : FillB q w nb na ps.length) (hl : (ps ++ x :: qs).length ≤ 1048576) :
  Calls Tryz.prog 147 #[.int .i64 p, .pointer (some ⟨nb, 0, none⟩), .pointer (some ⟨na, 0, none⟩)] w (z_l9 q base lo cap ls at_ v w (ps ++ (setB x.1 p, x.2) :: qs)) := by
 refine (z_l6 q base lo cap ls at_ v _ nb na ps.length p w h hl (z_mf _ _ _) hf.c0 hf.c1).mono ?_
 rintro e w' ⟨rfl, h1, h2⟩
 rw [z_jd, z_gX] at h1
 exact ⟨rfl, h1, h2⟩
def z_m6 (q base : Nat) (lo : Option Addr) (cap : Nat) (ls : List Ln) (at_ : Nat) (v : Value) (w : World) (ps : List (Stp × Value)) (s : Stp) (u : Value) (e : Ending) (w' : World) : Prop :=
 ∃ (v' : Value) (nb na : Nat), e = .returned (.tuple #[.func (.func 146) #[] #[.pointer (some ⟨nb, 0, none⟩), .pointer (some ⟨na, 0, none⟩)], .func (.func 147) #[] #[.pointer (some ⟨nb, 0, none⟩), .pointer (some ⟨na, 0, none⟩)]])
  ∧ MkSt q base lo cap ls w' at_ v' (ps ++ [(s, u)]) ∧ Wk q v.ownBlock w w' ∧ RowTo w v v' ∧ FillB q w' nb na ps.length
theorem z_fq (q base : Nat) (lo : Option Addr) (cap : Nat) (ls : List Ln) (at_ : Nat) (v : Value) (ps : List (Stp × Value)) (s : Stp) (uo : Option Addr) (uc : Nat) (w : World) (h : MkSt q base lo cap ls w at_ v ps) (hl : ps.length ≤ 100000)
  (hu : w.ownsRow base 9 1 (.slice uo s.args.length uc) s.args.length (strCells s.args)) (hap : ∀ p ∈ ps, ∀ k, p.2.ownBlock = some k → (Value.slice uo s.args.length uc).ownBlock ≠ some k) :
  Calls Tryz.prog 107 #[.pointer (some ⟨q, 0, none⟩), .agg #[.int .i64 s.code, .string s.to, .string s.name, .slice uo s.args.length uc, .string s.undo, .int .i64 s.a, .int .i64 s.b]] w (z_m6 q base lo cap ls at_ v w ps s (.slice uo s.args.length uc)) := by
 refine (z_m8 q base lo cap ls at_ v ps s uo uc w h hl hu hap).mono ?_
 rintro e w' ⟨v', rfl, h1, h2, h3, h4, h5, h6⟩
 exact ⟨v', _, _, rfl, h1, h2, h3, h4, h5⟩
theorem z_eG (q base : Nat) (lo : Option Addr) (cap : Nat) (ls : List Ln) (at_ : Nat) (v : Value) (ps : List (Stp × Value)) (c : Int) (w : World) (h : MkSt q base lo cap ls w at_ v ps) (hl : ps.length ≤ 100000) :
  Calls Tryz.prog 107 #[.pointer (some ⟨q, 0, none⟩), .agg #[.int .i64 c, .string ⟨#[]⟩, .string ⟨#[]⟩, .slice none 0 0, .string ⟨#[]⟩, .int .i64 0, .int .i64 0]] w (z_m6 q base lo cap ls at_ v w ps (z_ap c 0) (.slice none 0 0)) :=
 z_fq q base lo cap ls at_ v ps (z_ap c 0) none 0 w h hl (World.ownsRow_nil _ _ _ _) (fun p hp k hk e => by simp [Value.ownBlock] at e)
end
section
open Go.RowKit
theorem z_cz (q base : Nat) (lo : Option Addr) (cap : Nat) (ls : List Ln) (at_ : Nat) (v : Value) (ps : List (Stp × Value)) (n : Nat) (w : World) (h : MkSt q base lo cap ls w at_ v ps) (hn : ps.length = n) (hl : n ≤ 1048576) :
  Calls Tryz.prog 106 #[.pointer (some ⟨q, 0, none⟩)] w fun e w' => e = .returned (.int .i64 n) ∧ w' = w := by
 subst hn; exact z_kc q base lo cap ls at_ v ps w h hl
def BlkOK (q base : Nat) (lo : Option Addr) (cap : Nat) (ls : List Ln) (F at_ at2 N : Nat) (f : Nat → List Stp) : Prop :=
 ∀ (w : World) (v : Value) (ps : List (Stp × Value)), MkSt q base lo cap ls w at_ v ps → ps.length ≤ N → Calls Tryz.prog F #[.pointer (some ⟨q, 0, none⟩)] w fun e w' =>
  e = .returned (.tuple #[]) ∧ ∃ (v' : Value) (qs : List (Stp × Value)), qs.map (·.1) = f ps.length ∧ MkSt q base lo cap ls w' at2 v' (ps ++ qs) ∧ Wk q v.ownBlock w w' ∧ RowTo w v v'
def z_nJ (q base : Nat) (lo : Option Addr) (cap : Nat) (ls : List Ln) (at3 : Nat) (v : Value) (w : World) (ps : List (Stp × Value)) (x : Stp × Value) (qs : List (Stp × Value)) (d : Nat) (f : Nat → List Stp) (e : Ending) (w' : World) : Prop :=
 e = .returned (.tuple #[]) ∧ ∃ (v' : Value) (rs : List (Stp × Value)), rs.map (·.1) = f (ps.length + 1 + qs.length) ∧ MkSt q base lo cap ls w' at3 v' (ps ++ (setB x.1 ((ps.length + 1 + qs.length + d : Nat) : Int), x.2) :: (qs ++ rs)) ∧ Wk q v.ownBlock w w' ∧ RowTo w v v'
def z_dk (q base : Nat) (lo : Option Addr) (cap : Nat) (ls : List Ln) (F at_ at3 N : Nat) (more : Nat → Array Value) (d : Nat) (f : Nat → Nat → List Stp) : Prop :=
 ∀ (w : World) (v : Value) (ps : List (Stp × Value)) (x : Stp × Value) (qs : List (Stp × Value)) (nb na : Nat), MkSt q base lo cap ls w at_ v (ps ++ x :: qs) → FillB q w nb na ps.length → ps.length + qs.length ≤ N →
  Calls Tryz.prog F (#[.pointer (some ⟨q, 0, none⟩)] ++ more ps.length ++ #[.func (.func 147) #[] #[.pointer (some ⟨nb, 0, none⟩), .pointer (some ⟨na, 0, none⟩)]]) w (z_nJ q base lo cap ls at3 v w ps x qs d (f ps.length))
theorem RowTo.set {w : World} {q j : Nat} {u v v' : Value} (h : RowTo (w.setCell ⟨q, j, none⟩ u) v v') : RowTo w v v' := RowTo.refl.trans h (by simp [World.setCell])
theorem z_hI (q base : Nat) (lo : Option Addr) (cap : Nat) (ls : List Ln) (at_ at2 N : Nat) (f : Nat → List Stp) (hat : at_ ≤ 1000) (H : BlkOK q base lo cap ls 34 (at_ + 1) at2 N f) :
  BlkOK q base lo cap ls 109 at_ at2 N f := by
 intro w v ps hs hps
 have HH : Hid (BlkOK q base lo cap ls 34 (at_ + 1) at2 N f) := H
 have HS : Hid (MkSt q base lo cap ls w at_ v ps) := hs
 have c2 := hs.c2
 have f2 := hs.fz 2
 have hqlt := hs.lt
 clear H hs
 have e1 : ((at_ + 1 : Nat) : Int) = (at_ : Int) + 1 := by omega
 go_enter Tryz.func109, Tryz.ntmps109
 go_wp2_with fail
 have hs1 := HS.out.set2 (at_ + 1)
 rw [e1] at hs1
 refine (HH.out _ v ps hs1 hps).mono ?_
 rintro e w2 ⟨rfl, v', qs, hq, h2, hk, hr⟩
 have HE : Hid (qs.map (·.1) = f ps.length ∧ MkSt q base lo cap ls w2 at2 v' (ps ++ qs) ∧ Wk q v.ownBlock w w2 ∧ RowTo w v v') := ⟨hq, h2, (Wk.of_set 2 _).trans hk (.inl rfl), hr.set⟩
 clear hq h2 hk hr hs1
 go_wp2
 go_end0
 exact ⟨rfl, v', qs, HE.out⟩
end
end Go.Proofs.YtlbjjbolbopfmaaGreatDoor
