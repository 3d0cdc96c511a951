import Derived.Test.YtlbjjbolbopfmaaGreatDoorJ06
import Derived.Test.YtlbjjbolbopfmaaGreatDoorJ05
import Derived.Test.YtlbjjbolbopfmaaGreatDoorSh
import Derived.Defers
import Derived.Test.YtlbjjbolbopfmaaGreatDoorJ03
import Derived.Deep.AppendLies
import Derived.BigQuiet
import Derived.Deep.QuietTactic
import Derived.Test.YtlbjjbolbopfmaaGreatDoorJ04
namespace Go.Proofs.YtlbjjbolbopfmaaGreatDoor
set_option maxHeartbeats 4000000
set_option maxRecDepth 1000000
set_option linter.unusedVariables false
section
open Go.RowKit
theorem z_oc {w0 w w3 : World} {q base g' cap' : Nat} {a b v0 v d : Value} {A : List ByteArray} {x : ByteArray} {t : TypeId} {row : Option Nat} (hq : WObj w q a b v d) (ho : w.ownsRow base 9 1 v A.length (strCells A)) (hqb : q < base) (hbase : base ≤ w0.heap.size)
  (hk : Wk q v0.ownBlock w0 w) (hr : RowTo w0 v0 v)
  (hown : w3.ownsRow base 9 1 (.slice (some ⟨g', 0, none⟩) (A.length + 1) cap') (A.length + 1) (strCells A ++ [.string x])) (hgrow : (w.alloc (.cells #[.string x] t)).grownBy w3 row) (hat : row = some g' ∨ g' = w.heap.size + 1) (hrow : row = v.ownBlock) :
  Aside (WObj w3 q a b v d ∧ WObj (w3.setCell ⟨q, 2, none⟩ (.slice (some ⟨g', 0, none⟩) (A.length + 1) cap')) q a b (.slice (some ⟨g', 0, none⟩) (A.length + 1) cap') d ∧
   (w3.setCell ⟨q, 2, none⟩ (.slice (some ⟨g', 0, none⟩) (A.length + 1) cap')).ownsRow base 9 1 (.slice (some ⟨g', 0, none⟩) (A.length + 1) cap') (A ++ [x]).length (strCells (A ++ [x])) ∧
   Wk q v0.ownBlock w0 (w3.setCell ⟨q, 2, none⟩ (.slice (some ⟨g', 0, none⟩) (A.length + 1) cap')) ∧ RowTo w0 v0 (.slice (some ⟨g', 0, none⟩) (A.length + 1) cap')) := by
 subst hrow
 have hne : some q ≠ v.ownBlock := fun e => by have := (ho.lt _ e.symm).1; omega
 have hb1 : Below w.heap.size w (w.alloc (.cells #[.string x] t)) := (Below.refl _ _).alloc (Nat.le_refl _) _
 have h1 : WObj w3 q a b v d := (hq.below hb1).keep (hgrow.block q (by have := hq.lt; simp; omega) hne)
 have hw3 : Wk q v0.ownBlock w0 w3 := (hk.trans (Wk.of_below (row := v0.ownBlock) hb1) (.inl rfl)).trans (Wk.of_grown hgrow) hr
 have hg' : base ≤ g' := by
  have := (hown.lt g' rfl).1; omega
 refine ⟨h1, h1.set2 _, ?_, hw3.trans (Wk.of_set (row := v0.ownBlock) 2 _) (.inl rfl), ?_⟩
 ·have h2 := z_ad hown (g := q) (j := 2) (by simp [Value.ownBlock]; omega) (.slice (some ⟨g', 0, none⟩) (A.length + 1) cap')
  simpa [strCells] using h2
 ·rcases hat with h | h
  ·rcases hr with h' | h'
   ·exact .inl (by rw [← h', h]; rfl)
   ·exact .inr fun k hk => by
     have : g' = k := by simpa [Value.ownBlock] using hk
     exact h' k (by rw [h, this])
  ·exact .inr fun k hk' => by
    have h1 : g' = k := by simpa [Value.ownBlock] using hk'
    have h2 := hk.size
    omega
theorem z_dZ (q : Nat) (a b v d : Value) (ks ss : List ByteArray) (aoS : Option Addr) (cS : Nat) (base : Nat) (w : World) (hq : WObj w q a b v d) (ho : w.ownsRow base 9 1 v ks.length (strCells ks)) (hqb : q < base) (hbase : base ≤ w.heap.size)
  (hi : StrsAt 0 w.heap.size w aoS ss) (hsep : 0 < ss.length → ∀ p, aoS = some p → p.block ≠ q ∧ some p.block ≠ v.ownBlock) (hl : ks.length + ss.length ≤ 4398046511000) :
  Calls Tryz.prog 94 #[.pointer (some ⟨q, 2, none⟩), .slice aoS ss.length cS] w fun e w' => ∃ v', e = .returned (.tuple #[]) ∧ WObj w' q a b v' d ∧ w'.ownsRow base 9 1 v' (uniU ks ss).length (strCells (uniU ks ss)) ∧ Wk q v.ownBlock w w' ∧ RowTo w v v' := by
 obtain ⟨i0, hi0, hz0, hz1, hz2⟩ := info_parts Tryz.infoStr
 have HQ : Hid (WObj w q a b v d) := hq
 have HO : Hid (w.ownsRow base 9 1 v ks.length (strCells ks)) := ho
 have HI : Hid (StrsAt 0 w.heap.size w aoS ss) := hi
 have HS : Hid (0 < ss.length → ∀ p, aoS = some p → p.block ≠ q ∧ some p.block ≠ v.ownBlock) := hsep
 clear hq ho hi hsep
 go_enter Tryz.func94, Tryz.ntmps94
 go_wp2
 go_loopw [8] (fun i wr => ∃ (k : Nat) (v' : Value), k ≤ ss.length ∧ i = .int .i64 k ∧ Hid (WObj wr q a b v' d) ∧ Hid (wr.ownsRow base 9 1 v' (uniU ks (ss.take k)).length (strCells (uniU ks (ss.take k)))) ∧ Hid (Wk q v.ownBlock w wr) ∧ Hid (RowTo w v v')) (fun i _ => ss.length - (intOf i).toNat)
 case atStart => exact ⟨0, v, Nat.zero_le _, rfl, HQ, HO, Wk.refl, RowTo.refl⟩
 case round =>
  obtain ⟨k, v', hk, rfl, HQ1, HO1, HK1, HR1⟩ := hrel
  by_cases hlt : k < ss.length
  ·obtain ⟨bS, oS, rfl, hB, hcS0⟩ := HI.out.at k hlt
   obtain ⟨s1, s2⟩ := HS.out (by omega) _ rfl
   have hcS := (HK1.out.cell hB.2 s1 s2 (oS + k)).trans hcS0
   obtain ⟨x, hx⟩ : ∃ x, x = ss[k] := ⟨_, rfl⟩
   rw [← hx] at hcS
   have HU : Hid (uniU ks (ss.take (k + 1)) = addU (uniU ks (ss.take k)) x) := by rw [hx]; exact z_ib ks ss k hlt
   have hlu := z_bz (ss.take k) ks
   have hlt2 : (ss.take k).length ≤ k := List.length_take_le _ _
   obtain ⟨A, hA⟩ : ∃ A, A = uniU ks (ss.take k) := ⟨_, rfl⟩
   rw [← hA] at HO1 HU hlu
   have HQc : wr.cell? ⟨q, 2, none⟩ = some v' := HQ1.out.c2
   have hwr := HK1.out.size
   clear hA hcS0 hx s1 s2
   cases hh : hasB A x with
   | true =>
    have HN : Hid (uniU ks (ss.take (k + 1)) = A) := by show _ = _; rw [HU.out, addU, if_pos hh]
    go_wp2_with (go_at_call 126; refine (z_cM q 2 v' A x base wr (by omega) HQc HO1.out).mono ?_; rintro e wr ⟨rfl, rfl⟩; rw [hh])
    go_roundw
    case rel => exact ⟨k + 1, v', by omega, by go_num, HQ1, (show Hid _ by rw [HN.out]; exact HO1), HK1, HR1⟩
    case measure => simp [intOf]; omega
   | false =>
    have HN : Hid (uniU ks (ss.take (k + 1)) = A ++ [x]) := by show _ = _; rw [HU.out, addU, hh]; rfl
    go_wp2_with (first
     | (go_at_call 126; refine (z_cM q 2 v' A x base wr (by omega) HQc HO1.out).mono ?_; rintro e wr ⟨rfl, rfl⟩; rw [hh])
     | (at_builtin; refine wpList_append_lies _ rfl _ _ 45 rfl base 9 i0 (.string ByteArray.empty) 1 16 Tryz.underlying45 hi0 hz0 hz1 hz2 rfl (by decide) _ _ _ rfl (HO1.out.alloc _) ⟨wr.heap.size, 0, none⟩ 1 1 [.string x] rfl rfl (cell_one_new _ _ _) (fun u hu => by simp at hu; subst hu; rfl) (by decide) (by unfold maxLen; omega) (by omega) (by simp; omega) (wr.heap.size + 1) (by simp) ?_; intro g' cap' w3 hown' hgrow3 hat3 hlt3; have X := z_oc HQ1.out HO1.out hqb hbase HK1.out HR1.out hown' hgrow3 hat3 (by rfl); have HF3 := X.out.1.f 2; have HC3 := X.out.1.c2; clear hown' hgrow3 hat3 hlt3))
    go_roundw
    case rel => exact ⟨k + 1, _, by omega, by go_num, X.out.2.1, (show Hid _ by rw [HN.out]; exact X.out.2.2.1), X.out.2.2.2.1, X.out.2.2.2.2⟩
    case measure => simp [intOf]; omega
  ·have e0 : ss.take k = ss := List.take_of_length_le (by omega)
   rw [e0] at HO1
   go_wp2
   go_end0
   exact ⟨v', rfl, HQ1.out, HO1.out, HK1.out, HR1.out⟩
end
section
open Go.RowKit
theorem z_la {w : World} {base g n cap : Nat} {xs : List ByteArray} (h : w.ownsRow base 9 1 (.slice (some ⟨g, 0, none⟩) n cap) n (strCells xs)) (j : Nat) (hj : j < xs.length) : w.cell? ⟨g, j, none⟩ = some (.string (xs.getD j ByteArray.empty)) := by
 have hl : n = xs.length := by have := h.1; simp [strCells] at this; omega
 rw [h.cellAt j (by omega)]
 simp [strCells, hj, List.getD]
theorem z_d (q o : Nat) (v : Value) (pre g : List ByteArray) (base : Nat) (w : World) (hl : pre.length + g.length ≤ 4398046511104) (hc : w.cell? ⟨q, o, none⟩ = some v) (ho : w.ownsRow base 9 1 v (pre ++ g).length (strCells (pre ++ g))) :
  Calls Tryz.prog 131 #[.pointer (some ⟨q, o, none⟩), .int .i64 pre.length] w fun e w' => ∃ gv, e = .returned gv ∧ w'.ownsRow w.heap.size 9 1 gv g.length (strCells g) ∧ Below w.heap.size w w' := by
 rcases ho.2 with ⟨rfl, h0⟩ | ⟨gb, cap, cur, rfl, _, _, hn, hm, _⟩
 ·rw [List.length_append] at h0
  have e1 : pre = [] := List.length_eq_zero_iff.1 (by omega)
  have e2 : g = [] := List.length_eq_zero_iff.1 (by omega)
  subst e1 e2
  clear ho h0
  go_enter Tryz.func131, Tryz.ntmps131
  go_wp2_with (go_at_call 170; refine (Tryz.slices_Clone_string_nil 0 0 w).mono ?_; rintro e w ⟨rfl, rfl⟩)
  go_ret
  exact ⟨_, rfl, World.ownsRow_nil _ _ _ _, Below.refl _ _⟩
 ·have hcell : ∀ j, j < (pre ++ g).length → w.cell? ⟨gb, j, none⟩ = some (.string ((pre ++ g).getD j ByteArray.empty)) := fun j hj => z_la ho j hj
  have HC : Hid (∀ j, j < g.length → w.cell? ⟨gb, pre.length + j, none⟩ = some (.string (g.getD j ByteArray.empty))) := fun j hj => by
   rw [hcell _ (by simp; omega)]
   simp [List.getD, List.getElem?_append_right]
  have hlen : (pre ++ g).length = pre.length + g.length := by simp
  rw [hlen] at hc hn
  have hcap : cap ≤ 9223372036854775807 := by unfold maxLen at hm; omega
  clear ho hcell hm
  by_cases hg0 : g.length = 0
  ·have e2 : g = [] := List.length_eq_zero_iff.1 hg0
   subst e2
   simp only [List.length_nil, Nat.add_zero] at hc hn
   clear hlen hg0
   by_cases hpc : pre.length < cap
   ·go_enter Tryz.func131, Tryz.ntmps131
    go_wp2_with (go_at_call 170; refine (Tryz.slices_Clone_string_zero _ _ w).mono ?_; rintro e w1 ⟨v', rfl, ho', _, hb⟩)
    go_ret
    exact ⟨_, rfl, ho', hb⟩
   ·have e3 : pre.length = cap := by omega
    go_enter Tryz.func131, Tryz.ntmps131
    go_wp2_with (go_at_call 170; refine (Tryz.slices_Clone_string_zero _ _ w).mono ?_; rintro e w1 ⟨v', rfl, ho', _, hb⟩)
    go_ret
    exact ⟨_, rfl, ho', hb⟩
  ·have hpc : pre.length < cap := by omega
   go_enter Tryz.func131, Tryz.ntmps131
   go_wp2_with (go_at_call 170; refine (Tryz.slices_Clone_string gb pre.length g.length (cap - pre.length) g w (Nat.le_refl _) (by omega) HC.out).mono ?_; rintro e w1 ⟨v', rfl, ho', _, hb⟩)
   go_ret
   rw [List.take_length] at ho'
   exact ⟨_, rfl, ho', hb⟩
theorem z_cx (q : Nat) (a b v d : Value) (pre g : List ByteArray) (base : Nat) (u : FrameMode) (w : World) (hl : pre.length + g.length ≤ 4398046511104) (hq : WObj w q a b v d) (ho : w.ownsRow base 9 1 v (pre ++ g).length (strCells (pre ++ g))) (hqb : q < base) :
  CallsD Tryz.prog 128 #[.pointer (some ⟨q, 2, none⟩), .int .i64 pre.length] u w fun e u' w' => u' = u ∧ ∃ v', e = .returned (.tuple #[]) ∧ WObj w' q a b v' d ∧ w'.ownsRow base 9 1 v' pre.length (strCells pre) ∧ Wk q v.ownBlock w w' ∧ v'.ownBlock = v.ownBlock := by
 have c2 := hq.c2
 have f2 := hq.f 2
 rcases ho.2 with ⟨rfl, h0⟩ | ⟨gb, cap, cur, rfl, hgb, _, hn, hm, _⟩
 ·rw [List.length_append] at h0
  have e1 : pre = [] := List.length_eq_zero_iff.1 (by omega)
  subst e1
  have hq2 := hq.set2 (.slice none 0 0)
  clear hq ho
  go_enter_d Tryz.func128, Tryz.ntmps128
  go_wp2
  go_end0
  exact ⟨_, rfl, hq2, World.ownsRow_nil _ _ _ _, Wk.of_set _ _, rfl⟩
 ·have hlen : (pre ++ g).length = pre.length + g.length := by simp
  have HT := z_gA ho pre.length (by omega)
  rw [hlen] at c2 hn
  have hcap : cap ≤ 9223372036854775807 := by unfold maxLen at hm; omega
  have HT2 : Hid (w.ownsRow base 9 1 (.slice (some ⟨gb, 0, none⟩) pre.length cap) pre.length (strCells pre)) := by
   have e : (strCells (pre ++ g)).take (pre.length * 1) = strCells pre := by
    simp [strCells]
   rw [e] at HT; exact HT
  have hq2 := hq.set2 (.slice (some ⟨gb, 0, none⟩) pre.length cap)
  have HQ2 : Hid (WObj (w.setCell ⟨q, 2, none⟩ (.slice (some ⟨gb, 0, none⟩) pre.length cap)) q a b (.slice (some ⟨gb, 0, none⟩) pre.length cap) d) := hq2
  clear hq ho HT hq2 hm
  go_enter_d Tryz.func128, Tryz.ntmps128
  go_wp2
  go_end0
  exact ⟨_, rfl, HQ2.out, z_ad HT2.out (by simp [Value.ownBlock]; omega) _, Wk.of_set _ _, rfl⟩
end
section
open Go.RowKit
def lnV (l : Ln) (ao : Option Addr) (cap : Nat) : Value := .agg #[.int .i64 l.1, .string l.2.to, .string l.2.name, .slice ao l.2.args.length cap, .string l.2.undo]
theorem z_fu (a b : Ln) (a1 a2 : Option Addr) (c1 c2 : Nat) (w : World) (hl : b.2.args.length ≤ 4398046511104) (hi : StrsAt 0 w.heap.size w a2 b.2.args) :
  Calls Tryz.prog 208 #[lnV a a1 c1, lnV b a2 c2] w fun e w' => e = .returned (.bool (z_cW a b)) ∧ Below w.heap.size w w' := by
 have HI : Hid (StrsAt 0 w.heap.size w a2 b.2.args) := hi
 clear hi
 obtain ⟨k1, d1⟩ := a
 obtain ⟨k2, d2⟩ := b
 have HB : Hid (∀ L L' : Obj, Below w.heap.size w ((w.alloc L).alloc L')) := fun L L' => ((Below.refl _ _).alloc (Nat.le_refl _) _).alloc (by simp) _
 have hl2 : d2.args.length ≤ 4398046511104 := hl
 clear hl
 unfold lnV
 simp only
 cases q1 : d1.to.toList.isEmpty with
 | true =>
  have HN : Hid (z_cW (k1, d1) (k2, d2) = false) := by show (!(d1.to.toList.isEmpty) && _) = false; rw [q1]; rfl
  have q2 : (d1.to.toList == []) = true := by rw [← q1]; cases d1.to.toList <;> rfl
  go_enter Tryz.func208, Tryz.ntmps208
  go_wp2
  go_ret
  exact ⟨by rw [HN.out]; rfl, HB.out _ _⟩
 | false =>
  have q2 : (d1.to.toList == []) = false := by rw [← q1]; cases d1.to.toList <;> rfl
  have HM : Hid (z_cW (k1, d1) (k2, d2) = ((d1.to.toList == d2.to.toList) || hasB d2.args d1.to)) := by show (!(d1.to.toList.isEmpty) && _) = _; rw [q1]; rfl
  cases q3 : (d1.to.toList == d2.to.toList) with
  | true =>
   have HN : Hid (z_cW (k1, d1) (k2, d2) = true) := by show _ = _; rw [HM.out, q3]; rfl
   go_enter Tryz.func208, Tryz.ntmps208
   go_wp2
   go_ret
   exact ⟨by rw [HN.out]; rfl, HB.out _ _⟩
  | false =>
   have HN : Hid (z_cW (k1, d1) (k2, d2) = hasB d2.args d1.to) := by show _ = _; rw [HM.out, q3]; rfl
   go_enter Tryz.func208, Tryz.ntmps208
   go_wp2_with (go_at_call 162; refine (z_bN a2 c2 d2.args d1.to w.heap.size _ (by omega) (HI.out.below (HB.out _ _))).mono ?_; rintro e w' ⟨rfl, rfl⟩)
   go_ret
   exact ⟨by rw [HN.out]; rfl, HB.out _ _⟩
theorem z_fT (a b : Ln) (a1 a2 : Option Addr) (c1 c2 : Nat) (w : World) :
  Calls Tryz.prog 209 #[lnV a a1 c1, lnV b a2 c2] w fun e w' => e = .returned (.bool (sigB a b)) ∧ Below w.heap.size w w' := by
 obtain ⟨k1, d1⟩ := a
 obtain ⟨k2, d2⟩ := b
 have HB : Hid (∀ L L' : Obj, Below w.heap.size w ((w.alloc L).alloc L')) := fun L L' => ((Below.refl _ _).alloc (Nat.le_refl _) _).alloc (by simp) _
 have HM : Hid (sigB (k1, d1) (k2, d2) = ((k1 == 5) && ((k2 == 5) && (d1.name.toList == d2.name.toList)))) := rfl
 unfold lnV
 simp only
 cases q1 : (k1 == 5) <;> cases q2 : (k2 == 5) <;> cases q3 : (d1.name.toList == d2.name.toList)
 all_goals
  go_enter Tryz.func209, Tryz.ntmps209
  go_wp2
  go_ret
  exact ⟨by rw [HM.out, q1, q2, q3] <;> rfl, HB.out _ _⟩
end
section
open Go.RowKit
def BoxL (w : World) (p : Nat) (l : Ln) (ao : Option Addr) (cap : Nat) : Prop := w.heap[p]? = some (.cells #[.int .i64 l.1, .string l.2.to, .string l.2.name, .slice ao l.2.args.length cap, .string l.2.undo] 49 (0, 0))
theorem BoxL.cells {w : World} {p : Nat} {l : Ln} {ao : Option Addr} {cap : Nat} (h : BoxL w p l ao cap) : w.cell? ⟨p, 0, none⟩ = some (.int .i64 l.1) ∧ w.cell? ⟨p, 1, none⟩ = some (.string l.2.to) ∧ w.cell? ⟨p, 2, none⟩ = some (.string l.2.name) ∧ w.cell? ⟨p, 3, none⟩ = some (.slice ao l.2.args.length cap) ∧ w.cell? ⟨p, 4, none⟩ = some (.string l.2.undo) := by
 refine ⟨?_, ?_, ?_, ?_, ?_⟩ <;> (rw [cell_of_row w p _ _ _ _ h]; rfl)
theorem BoxL.lt {w : World} {p : Nat} {l : Ln} {ao : Option Addr} {cap : Nat} (h : BoxL w p l ao cap) : p < w.heap.size := (Array.getElem?_eq_some_iff.1 h).1
theorem BoxL.below {w w' : World} {B p : Nat} {l : Ln} {ao : Option Addr} {cap : Nat} (h : BoxL w p l ao cap) (hb : Below B w w') (hp : p < B) : BoxL w' p l ao cap := (hb.block p hp).trans h
theorem z_kX (xs ys : List Ln) (k : Nat) (h : k < xs.length) : z_a5 (xs.take (k + 1)) ys = (z_a5 (xs.take k) ys || ys.any fun b => z_ey xs[k] b) := by
 rw [List.take_succ_eq_append_getElem h, z_a5, List.any_append]; simp [z_a5]
theorem z_l2 {xs ys : List Ln} {k j : Nat} (h : k < xs.length) (h' : j < ys.length) (hp : z_ey xs[k] ys[j] = true) : z_a5 xs ys = true := by
 rw [z_a5, List.any_eq_true]
 exact ⟨xs[k], List.getElem_mem h, by rw [List.any_eq_true]; exact ⟨ys[j], List.getElem_mem h', hp⟩⟩
theorem z_mS (p : Ln → Bool) (ys : List Ln) (k : Nat) (h : k < ys.length) : (ys.take (k + 1)).any p = ((ys.take k).any p || p ys[k]) := by
 rw [List.take_succ_eq_append_getElem h, List.any_append]; simp
theorem z_mg (a1 a2 : Option Addr) (c1 c2 : Nat) (xs ys : List Ln) (w : World) (hx : xs.length ≤ 1000) (hy : ys.length ≤ 1000) (hzx : ∀ l ∈ xs, LnSz l) (hzy : ∀ l ∈ ys, LnSz l) (hix : LinesAt w.heap.size w a1 xs) (hiy : LinesAt w.heap.size w a2 ys) :
  Calls Tryz.prog 195 #[.slice a1 xs.length c1, .slice a2 ys.length c2] w fun e w' => e = .returned (.bool (z_a5 xs ys)) ∧ Below w.heap.size w w' := by
 have HX : Hid (LinesAt w.heap.size w a1 xs) := hix
 have HY : Hid (LinesAt w.heap.size w a2 ys) := hiy
 have HZX : Hid (∀ l ∈ xs, LnSz l) := hzx
 have HZY : Hid (∀ l ∈ ys, LnSz l) := hzy
 clear hix hiy hzx hzy
 go_enter Tryz.func195, Tryz.ntmps195
 go_wp2
 go_loopw [11] (fun i wr => ∃ (k : Nat), k ≤ xs.length ∧ i = .int .i64 k ∧ Hid (Below w.heap.size w wr) ∧ w.heap.size ≤ wr.heap.size ∧ Hid (z_a5 (xs.take k) ys = false)) (fun i _ => xs.length - (intOf i).toNat)
 case atStart => exact ⟨0, Nat.zero_le _, rfl, Below.refl _ _, Nat.le_refl _, rfl⟩
 case round =>
  obtain ⟨W1, hW1⟩ : ∃ W1, W1 = wr := ⟨_, rfl⟩
  subst hW1
  obtain ⟨k, hk, rfl, HB1, hws, HC⟩ := hrel
  by_cases hlt : k < xs.length
  ·obtain ⟨b, off, rfl, hB, aoA, capA, hcA, q0, q1, q2, q3, q4, hA⟩ := HX.out k hlt
   have c0 := (HB1.out.cell (p := ⟨b, off + k * 5, none⟩) hB).trans q0
   have c1 := (HB1.out.cell (p := ⟨b, off + k * 5 + 1, none⟩) hB).trans q1
   have c2 := (HB1.out.cell (p := ⟨b, off + k * 5 + 2, none⟩) hB).trans q2
   have c3 := (HB1.out.cell (p := ⟨b, off + k * 5 + 3, none⟩) hB).trans q3
   have c4 := (HB1.out.cell (p := ⟨b, off + k * 5 + 4, none⟩) hB).trans q4
   have HAr : Hid (StrsAt 0 w.heap.size w aoA xs[k].2.args) := hA
   have hlz := (HZX.out _ (List.getElem_mem hlt)).len
   have HSn : Hid (z_a5 (xs.take (k + 1)) ys = ys.any fun b => z_ey xs[k] b) := by show _ = _; rw [z_kX xs ys k hlt, HC.out]; rfl
   have HYes : Hid (∀ j (h : j < ys.length), z_ey xs[k] ys[j] = true → z_a5 xs ys = true) := fun j h hp => z_l2 hlt h hp
   clear q0 q1 q2 q3 q4 hA HC
   obtain ⟨L, hL⟩ : ∃ L, L = xs[k] := ⟨_, rfl⟩
   rw [← hL] at c0 c1 c2 c3 c4 HAr hcA hlz HSn HYes
   clear hL
   obtain ⟨ka, da⟩ := L
   simp only at c0 c1 c2 c3 c4 hcA hlz
   go_wp2
   go_loopw [17] (fun i wr => ∃ (j : Nat), j ≤ ys.length ∧ i = .int .i64 j ∧ Hid (Below w.heap.size w wr) ∧ w.heap.size ≤ wr.heap.size ∧ Hid (BoxL wr W1.heap.size (ka, da) aoA capA) ∧ Hid ((ys.take j).any (fun b => z_ey (ka, da) b) = false)) (fun i _ => ys.length - (intOf i).toNat)
   case atStart => exact ⟨0, Nat.zero_le _, rfl, HB1.out.alloc hws _, by simp; omega, heap_alloc_new W1 _, rfl⟩
   case round =>
    obtain ⟨j, hj, rfl, HB2, hwi, HBA, HCj⟩ := hrel
    by_cases hjt : j < ys.length
    ·obtain ⟨b2, off2, rfl, hBb, aoB, capB, hcB, q0, q1, q2, q3, q4, hAb⟩ := HY.out j hjt
     have e0 := (HB2.out.cell (p := ⟨b2, off2 + j * 5, none⟩) hBb).trans q0
     have e1 := (HB2.out.cell (p := ⟨b2, off2 + j * 5 + 1, none⟩) hBb).trans q1
     have e2 := (HB2.out.cell (p := ⟨b2, off2 + j * 5 + 2, none⟩) hBb).trans q2
     have e3 := (HB2.out.cell (p := ⟨b2, off2 + j * 5 + 3, none⟩) hBb).trans q3
     have e4 := (HB2.out.cell (p := ⟨b2, off2 + j * 5 + 4, none⟩) hBb).trans q4
     have HBr : Hid (StrsAt 0 w.heap.size w aoB ys[j].2.args) := hAb
     have hlz2 := (HZY.out _ (List.getElem_mem hjt)).len
     have HSj : Hid ((ys.take (j + 1)).any (fun b => z_ey (ka, da) b) = z_ey (ka, da) ys[j]) := by show _ = _; rw [z_mS _ ys j hjt, HCj.out]; rfl
     have HYj : Hid (z_ey (ka, da) ys[j] = true → z_a5 xs ys = true) := HYes.out j hjt
     clear q0 q1 q2 q3 q4 hAb HCj
     obtain ⟨L, hL⟩ : ∃ L, L = ys[j] := ⟨_, rfl⟩
     rw [← hL] at e0 e1 e2 e3 e4 HBr hcB hlz2 HSj HYj
     clear hL
     obtain ⟨kb, db⟩ := L
     simp only at e0 e1 e2 e3 e4 hcB hlz2
     obtain ⟨x0, x1, x2, x3, x4⟩ := HBA.out.cells
     have hpA := HBA.out.lt
     simp only at x0 x1 x2 x3 x4
     have HD : Hid (z_ey (ka, da) (kb, db) = (z_cW (ka, da) (kb, db) || (z_cW (kb, db) (ka, da) || sigB (ka, da) (kb, db)))) := rfl
     have HWa : Hid (∀ w', Below w.heap.size w w' → StrsAt 0 w'.heap.size w' aoA da.args) := fun w' h => HAr.out.later h
     have HWb : Hid (∀ w', Below w.heap.size w w' → StrsAt 0 w'.heap.size w' aoB db.args) := fun w' h => HBr.out.later h
     go_wp2_with fail
     have hbn : BoxL (wr.alloc (.cells #[.int .i64 kb, .string db.to, .string db.name, .slice aoB db.args.length capB, .string db.undo] 49)) wr.heap.size (kb, db) aoB capB := heap_alloc_new wr _
     have hban : BoxL (wr.alloc (.cells #[.int .i64 kb, .string db.to, .string db.name, .slice aoB db.args.length capB, .string db.undo] 49)) W1.heap.size (ka, da) aoA capA := HBA.out.below ((Below.refl _ _).alloc (Nat.le_refl _) _) hpA
     have HBn : Hid (Below w.heap.size w (wr.alloc (.cells #[.int .i64 kb, .string db.to, .string db.name, .slice aoB db.args.length capB, .string db.undo] 49))) := HB2.out.alloc hwi _
     refine (z_fu (ka, da) (kb, db) aoA aoB capA capB _ (by simp only; omega) (HWb.out _ HBn.out)).mono ?_
     rintro e w4 ⟨rfl, hb4⟩
     have HB4 : Hid (Below w.heap.size w w4) := HBn.out.trans (hb4.mono (by simp; omega))
     have HA4 : Hid (BoxL w4 W1.heap.size (ka, da) aoA capA) := hban.below hb4 (by simp; omega)
     have HB5 : Hid (BoxL w4 wr.heap.size (kb, db) aoB capB) := hbn.below hb4 (by simp)
     obtain ⟨x0, x1, x2, x3, x4⟩ := HA4.out.cells
     obtain ⟨y0, y1, y2, y3, y4⟩ := HB5.out.cells
     simp only at x0 x1 x2 x3 x4 y0 y1 y2 y3 y4
     have hw4 : wr.heap.size < w4.heap.size := HB5.out.lt
     clear hbn hban hb4
     cases m1 : z_cW (ka, da) (kb, db) with
     | true =>
      have HN : Hid (z_a5 xs ys = true) := HYj.out (by rw [HD.out, m1]; rfl)
      go_wp2
      go_ret
      exact ⟨by rw [HN.out]; rfl, HB4.out⟩
     | false =>
      go_wp2_with fail
      refine (z_fu (kb, db) (ka, da) aoB aoA capB capA _ (by simp only; omega) (HWa.out _ HB4.out)).mono ?_
      rintro e w5 ⟨rfl, hb5⟩
      have HB5' : Hid (Below w.heap.size w w5) := HB4.out.trans (hb5.mono (by omega))
      have HA6 : Hid (BoxL w5 W1.heap.size (ka, da) aoA capA) := HA4.out.below hb5 (by omega)
      have HB6 : Hid (BoxL w5 wr.heap.size (kb, db) aoB capB) := HB5.out.below hb5 hw4
      obtain ⟨x0, x1, x2, x3, x4⟩ := HA6.out.cells
      obtain ⟨y0, y1, y2, y3, y4⟩ := HB6.out.cells
      simp only at x0 x1 x2 x3 x4 y0 y1 y2 y3 y4
      have hw5 : wr.heap.size < w5.heap.size := HB6.out.lt
      clear hb5
      cases m2 : z_cW (kb, db) (ka, da) with
      | true =>
       have HN : Hid (z_a5 xs ys = true) := HYj.out (by rw [HD.out, m1, m2]; rfl)
       go_wp2
       go_ret
       exact ⟨by rw [HN.out]; rfl, HB5'.out⟩
      | false =>
       go_wp2_with fail
       refine (z_fT (ka, da) (kb, db) aoA aoB capA capB _).mono ?_
       rintro e w6 ⟨rfl, hb6⟩
       have HB7 : Hid (Below w.heap.size w w6) := HB5'.out.trans (hb6.mono (by omega))
       have HA7 : Hid (BoxL w6 W1.heap.size (ka, da) aoA capA) := HA6.out.below hb6 (by omega)
       have hw6 : w.heap.size ≤ w6.heap.size := by have := hb6.size; omega
       clear hb6
       cases m3 : sigB (ka, da) (kb, db) with
       | true =>
        have HN : Hid (z_a5 xs ys = true) := HYj.out (by rw [HD.out, m1, m2, m3]; rfl)
        go_wp2
        go_ret
        exact ⟨by rw [HN.out]; rfl, HB7.out⟩
       | false =>
        have HN : Hid ((ys.take (j + 1)).any (fun b => z_ey (ka, da) b) = false) := by show _ = _; rw [HSj.out, HD.out, m1, m2, m3]; rfl
        go_wp2
        go_roundw
        case rel => exact ⟨j + 1, by omega, by go_num, HB7, hw6, HA7, HN⟩
        case measure => simp [intOf]; omega
    ·have e0 : ys.take j = ys := List.take_of_length_le (by omega)
     have HN : Hid (z_a5 (xs.take (k + 1)) ys = false) := by show _ = _; rw [HSn.out, ← e0]; exact HCj.out
     go_wp2
     go_roundw
     case rel => exact ⟨k + 1, by omega, by go_num, HB2, hwi, HN⟩
     case measure => simp [intOf]; omega
  ·have e0 : xs.take k = xs := List.take_of_length_le (by omega)
   have HN : Hid (z_a5 xs ys = false) := by show _ = _; rw [← e0]; exact HC.out
   go_wp2
   go_ret
   exact ⟨by rw [HN.out]; rfl, HB1.out⟩
end
section
open Go.RowKit
theorem z_lK (a b : List ByteArray) (k : Nat) (h : k < a.length) : comm (a.take (k + 1)) b = comm (a.take k) b ++ if hasB b a[k] = true then [a[k]] else [] := by
 rw [List.take_succ_eq_append_getElem h, comm, List.filter_append]
 congr 1
 simp [List.filter_cons]
theorem z_eK (a b : List ByteArray) : (comm a b).length ≤ a.length := List.length_filter_le _ _
theorem z_f5 (a1 a2 : Option Addr) (c1 c2 : Nat) (xs ys : List ByteArray) (w : World) (hx : xs.length ≤ 4398046511000) (hy : ys.length ≤ 4398046511000) (h1 : StrsAt 0 w.heap.size w a1 xs) (h2 : StrsAt 0 w.heap.size w a2 ys) :
  Calls Tryz.prog 193 #[.slice a1 xs.length c1, .slice a2 ys.length c2] w fun e w' => ∃ v, e = .returned v ∧ Below w.heap.size w w' ∧ w'.ownsRow w.heap.size 9 1 v (comm xs ys).length (strCells (comm xs ys)) := by
 obtain ⟨i0, hi0, hz0, hz1, hz2⟩ := info_parts Tryz.infoStr
 have H1 : Hid (StrsAt 0 w.heap.size w a1 xs) := h1
 have H2 : Hid (StrsAt 0 w.heap.size w a2 ys) := h2
 clear h1 h2
 go_enter Tryz.func193, Tryz.ntmps193
 go_wp2
 go_loopw [5, 10] (fun x i wr => ∃ (k : Nat), k ≤ xs.length ∧ i = .int .i64 k ∧ Hid (wr.ownsRow w.heap.size 9 1 x (comm (xs.take k) ys).length (strCells (comm (xs.take k) ys))) ∧ Hid (Below w.heap.size w wr) ∧ w.heap.size ≤ wr.heap.size) (fun _ i _ => xs.length - (intOf i).toNat)
 case atStart => exact ⟨0, Nat.zero_le _, rfl, World.ownsRow_nil _ _ _ _, Below.refl _ _, Nat.le_refl _⟩
 case round =>
  obtain ⟨k, hk, rfl, HO1, HB1, hws⟩ := hrel
  by_cases hlt : k < xs.length
  ·obtain ⟨b, off, rfl, hB, hc0⟩ := H1.out.at k hlt
   have hc := (HB1.out.cell (p := ⟨b, off + k, none⟩) hB.2).trans hc0
   have HSn := z_lK xs ys k hlt
   have HS : Hid (comm (xs.take (k + 1)) ys = comm (xs.take k) ys ++ if hasB ys xs[k] = true then [xs[k]] else []) := HSn
   have hcl := z_eK (xs.take k) ys
   have hcl2 : (xs.take k).length ≤ k := List.length_take_le _ _
   obtain ⟨x, hx⟩ : ∃ x, x = xs[k] := ⟨_, rfl⟩
   rw [← hx] at hc HS
   obtain ⟨A, hA⟩ : ∃ A, A = comm (xs.take k) ys := ⟨_, rfl⟩
   rw [← hA] at HO1 HS hcl
   clear hx hA hc0 HSn
   have H2w : Hid (StrsAt 0 w.heap.size wr a2 ys) := H2.out.below HB1.out
   cases hh : hasB ys x with
   | true =>
    have HN : Hid (comm (xs.take (k + 1)) ys = A ++ [x]) := by show _ = _; rw [HS.out, hh]; rfl
    go_wp2_with (first
     | (go_at_call 162; refine (z_bN a2 c2 ys x w.heap.size wr (by omega) H2w.out).mono ?_; rintro e wr ⟨rfl, rfl⟩; rw [hh])
     | (at_builtin; refine wpList_append_own _ rfl _ _ 45 rfl w.heap.size 9 i0 (.string ByteArray.empty) 1 16 Tryz.underlying45 hi0 hz0 hz1 hz2 rfl (by decide) _ _ _ rfl (HO1.out.alloc _) ⟨wr.heap.size, 0, none⟩ 1 1 [.string x] rfl rfl (cell_one_new _ _ _) (fun u hu => by simp at hu; subst hu; rfl) (by unfold maxLen; omega) (by omega) (by simp; omega) ?_; intro v' w3 hown' hgrow3 hnil3; have X : Aside (w3.ownsRow w.heap.size 9 1 v' (A ++ [x]).length (strCells (A ++ [x])) ∧ Below w.heap.size w w3) := ⟨by simpa [strCells] using hown', HB1.out.trans (((Below.refl _ _).alloc (Nat.le_refl _) _ |>.mono hws).trans (z_dr hgrow3 (by simp; omega) (fun j hj => (HO1.out.lt j hj).1)))⟩; have hws3 := X.out.2.size; have hw1 := hgrow3.size; clear hown' hgrow3 hnil3))
    go_roundw
    case rel => exact ⟨k + 1, by omega, by go_num, (show Hid _ by rw [HN.out]; exact X.out.1), X.out.2, by omega⟩
    case measure => simp [intOf]; omega
   | false =>
    have HN : Hid (comm (xs.take (k + 1)) ys = A) := by show _ = _; rw [HS.out, hh]; simp
    go_wp2_with (go_at_call 162; refine (z_bN a2 c2 ys x w.heap.size wr (by omega) H2w.out).mono ?_; rintro e wr ⟨rfl, rfl⟩; rw [hh])
    go_roundw
    case rel => exact ⟨k + 1, by omega, by go_num, (show Hid _ by rw [HN.out]; exact HO1), HB1, hws⟩
    case measure => simp [intOf]; omega
  ·have e0 : xs.take k = xs := List.take_of_length_le (by omega)
   rw [e0] at HO1
   go_wp2
   go_ret
   exact ⟨_, rfl, HB1.out, HO1.out⟩
end
section
open Go.RowKit
def z_nO (w : World) (ok : Bool) (e : Ending) (w' : World) : Prop := ∃ v, e = .returned v ∧ Below w.heap.size w w' ∧ ((v = .nilIface ∧ ok = true) ∨ (z_eg v ∧ ok = false))
theorem z_hi (q : Nat) (ao : Option Addr) (cap : Nat) (ls : List Ln) (at_ : Nat) (v : Value) (boths : Nat) (ks : List ByteArray) (base : Nat) (live : Bool) (w : World)
  (hq : WObj w q (.slice ao ls.length cap) (.int .i64 at_) v (.int .i64 boths)) (ho : w.ownsRow base 9 1 v ks.length (strCells ks)) (hlk : ks.length ≤ 4398046511000) (hat : at_ < ls.length) (hl : ls.length ≤ 60) (hbo : boths ≤ 1000)
  (hi : LinesAt w.heap.size w ao ls) (hz : LnSz ls[at_]) (he : Env w) :
  Calls Tryz.prog 129 #[.pointer (some ⟨q, 0, none⟩), .bool live] w fun e w' => z_nO w (z_bk ks (decide (0 < boths)) live ls[at_]) e w' := by
 obtain ⟨b, off, rfl, hB, aoA, capA, hcA, q0, q1, q2, q3, q4, hA⟩ := hi at_ hat
 obtain ⟨L, hL⟩ : ∃ L, L = ls[at_] := ⟨_, rfl⟩
 rw [← hL] at q0 q1 q2 q3 q4 hA hcA hz ⊢
 clear hL
 obtain ⟨kd, dd⟩ := L
 obtain ⟨z1, z2, z3, z4, z5⟩ := hz
 simp only at q0 q1 q2 q3 q4 hA hcA z1 z2 z3 z4 z5
 have HD : Hid (z_bk ks (decide (0 < boths)) live (kd, dd) = (live && (allB (z_ce ks) dd.args && !(z_a1 kd && decide (0 < boths))))) := rfl
 have HZ5 : Hid (∀ s ∈ dd.args, s.size ≤ 1048576) := z5
 have HA : Hid (StrsAt 0 w.heap.size w aoA dd.args) := hA
 have HE : Hid (Env w) := he
 have w0 := hq.c0
 have w1 := hq.c1
 have HQ : Hid (WObj w q (.slice (some ⟨b, off, none⟩) ls.length cap) (.int .i64 at_) v (.int .i64 boths)) := hq
 have HO : Hid (w.ownsRow base 9 1 v ks.length (strCells ks)) := ho
 have hqlt := hq.lt
 have hmf : ∀ (fn : Fn) (first cap : Array Value) (w : World), (Instr.makeFunc fn first cap).run Tryz.prog w = .ok (.func fn first cap) w := fun _ _ _ _ => rfl
 have hbx : BoxL (w.alloc (.cells #[.int .i64 kd, .string dd.to, .string dd.name, .slice aoA dd.args.length capA, .string dd.undo] 49)).drew w.heap.size (kd, dd) aoA capA := heap_alloc_new w _
 have HB1 : Hid (Below w.heap.size w (w.alloc (.cells #[.int .i64 kd, .string dd.to, .string dd.name, .slice aoA dd.args.length capA, .string dd.undo] 49)).drew) := ((Below.refl _ _).alloc (Nat.le_refl _) _).drew
 clear hi hq hA ho he z5
 cases live with
 | false =>
  have HN : Hid (z_bk ks (decide (0 < boths)) false (kd, dd) = false) := rfl
  go_enter Tryz.func129, Tryz.ntmps129
  go_wp2
  go_region
  all_goals (try go_wp2_with fail)
  refine (z_eX q _ v _ at_ 7 _ (HQ.out.below HB1.out) (by decide) (by omega)).mono ?_
  rintro e w' ⟨⟨ve, rfl, hle⟩, rfl⟩
  go_wp2
  go_ret
  exact ⟨_, rfl, HB1.out, .inr ⟨hle, HN.out⟩⟩
 | true =>
  go_enter Tryz.func129, Tryz.ntmps129
  go_wp2
  go_region
  all_goals (try go_wp2_with fail)
  obtain ⟨W1, hW1⟩ : ∃ W1, W1 = (w.alloc (.cells #[.int .i64 kd, .string dd.to, .string dd.name, .slice aoA dd.args.length capA, .string dd.undo] 49)).drew := ⟨_, rfl⟩
  rw [← hW1] at hbx HB1 ⊢
  clear hW1
  refine (z_ex q _ _ v _ ks base aoA capA dd.args W1 (HQ.out.below HB1.out) (z_ax HO.out HB1.out) hlk (by omega) (fun s hs => by have := HZ5.out s hs; omega) (HA.out.later HB1.out) (HE.out.later HB1.out)).mono ?_
  rintro e W2 ⟨rfl, hb2⟩
  have HB2 : Hid (Below w.heap.size w W2) := HB1.out.trans (hb2.mono HB1.out.size)
  have hbx2 : BoxL W2 w.heap.size (kd, dd) aoA capA := hbx.below hb2 hbx.lt
  obtain ⟨y0, y1, y2, y3, y4⟩ := hbx2.cells
  simp only at y0 y1 y2 y3 y4
  have hq2 := HQ.out.below HB2.out
  have u3 := hq2.c3
  have HQ2 : Hid (WObj W2 q (.slice (some ⟨b, off, none⟩) ls.length cap) (.int .i64 at_) v (.int .i64 boths)) := hq2
  clear hb2 hbx hbx2 hq2
  cases hk : allB (z_ce ks) dd.args with
  | false =>
   have HN : Hid (z_bk ks (decide (0 < boths)) true (kd, dd) = false) := by show _ = _; rw [HD.out, hk]; rfl
   go_wp2_with (go_at_call 163; refine (z_eX q _ v _ at_ 4 _ HQ2.out (by decide) (by omega)).mono ?_; rintro e w' ⟨⟨ve, rfl, hle⟩, rfl⟩)
   go_ret
   exact ⟨_, rfl, HB2.out, .inr ⟨hle, HN.out⟩⟩
  | true =>
   cases hlv : z_a1 kd with
   | false =>
    have HN : Hid (z_bk ks (decide (0 < boths)) true (kd, dd) = true) := by show _ = _; rw [HD.out, hk, hlv]; rfl
    go_wp2_with (go_at_call 166; refine (z_cE _ _).mono ?_; rintro e W2 ⟨rfl, rfl⟩; rw [hlv])
    go_ret
    exact ⟨_, rfl, HB2.out, .inl ⟨rfl, HN.out⟩⟩
   | true =>
    cases hb0 : decide (0 < boths) with
    | true =>
     have HN : Hid (z_bk ks (decide (0 < boths)) true (kd, dd) = false) := by show _ = _; rw [HD.out, hk, hlv, hb0]; rfl
     have hb1 : 0 < boths := by simpa using hb0
     go_wp2_with (first
      | (go_at_call 166; refine (z_cE _ _).mono ?_; rintro e W2 ⟨rfl, rfl⟩; rw [hlv])
      | (go_at_call 163; refine (z_eX q _ v _ at_ 2 _ HQ2.out (by decide) (by omega)).mono ?_; rintro e w' ⟨⟨ve, rfl, hle⟩, rfl⟩))
     go_ret
     exact ⟨_, rfl, HB2.out, .inr ⟨hle, HN.out⟩⟩
    | false =>
     have HN : Hid (z_bk ks false true (kd, dd) = true) := by show (_ && (allB (z_ce ks) dd.args && !(z_a1 kd && false))) = true; rw [hk, hlv]; rfl
     have hb1 : boths = 0 := by simpa using hb0
     subst hb1
     go_wp2_with (first
      | (go_at_call 166; refine (z_cE _ _).mono ?_; rintro e W2 ⟨rfl, rfl⟩; rw [hlv]))
     go_ret
     exact ⟨_, rfl, HB2.out, .inl ⟨rfl, HN.out⟩⟩
end
section
open Go.RowKit
theorem l1Cut_any (s : ByteArray) (a : Nat) (w : World) (hs : s.size ≤ 4398046511000) :
    Calls Tryz.prog 154 #[.string s, .int .u8 a] w fun e w' => ∃ v, e = .returned v ∧ Below w.heap.size w w' ∧ z_bd w.heap.size w'.heap.size w' v (cutS s a) := by
  obtain ⟨i0, hi0, hz0, hz1, hz2⟩ := info_parts Tryz.infoStr
  go_enter Tryz.func154, Tryz.ntmps154
  go_wp2
  go_loopw [5, 6, 7] (fun v st ix wr => ∃ (pos fuel fr : Nat) (acc : List ByteArray), wr.ownsRow w.heap.size 9 1 v acc.length (strCells acc) ∧ Hid (Below w.heap.size w wr) ∧ st = .int .i64 fr ∧ ix = .int .i64 pos ∧ Hid (acc ++ cutAt s a fuel pos fr = cutS s a) ∧ pos + fuel = s.size ∧ acc.length ≤ pos ∧ fr ≤ pos) (fun _ _ ix _ => s.size - (intOf ix).toNat)
  case atStart => exact ⟨0, s.size, 0, [], World.ownsRow_made w #[] 0 (Nat.le_refl _) (by decide) rfl, (Below.refl _ _).alloc (Nat.le_refl _) _, rfl, rfl, rfl, by omega, by simp, by omega⟩
  case round =>
    obtain ⟨pos, fuel, fr, acc, hown, HB, rfl, rfl, HS, hb, hlen, hfr⟩ := hrel
    have hwsz := HB.out.size
    by_cases hp : pos < s.size
    · obtain ⟨f, rfl⟩ : ∃ f, fuel = f + 1 := ⟨fuel - 1, by omega⟩
      have hbk : (s[pos]'hp).toNat < 256 := (s[pos]'hp).toNat_lt
      have hg : s.get! pos = s[pos]'hp := get_at s pos hp
      by_cases hq : (s[pos]'hp).toNat = a
      · have HN : Hid ((acc ++ [s.extract fr pos]) ++ cutAt s a f (pos + 1) (pos + 1) = cutS s a) := by
          show _ = _
          rw [← HS.out, cutAt, if_pos (by rw [hg]; exact hq), List.append_assoc]; rfl
        have hq2 : (((s[pos]'hp).toNat : Int) == (a : Int)) = true := by simp [hq]
        clear hg hq
        go_wp2_with (first
            | (at_builtin; refine wpList_append_own _ rfl _ _ 45 rfl w.heap.size 9 i0 (.string ByteArray.empty) 1 16 Tryz.underlying45 hi0 hz0 hz1 hz2 rfl (by decide) _ _ _ rfl (hown.alloc _) ⟨wr.heap.size, 0, none⟩ 1 1 [.string (s.extract fr pos)] rfl rfl (cell_one_new _ _ _) (fun u hu => by simp at hu; subst hu; rfl) (by unfold maxLen; omega) (by omega) (by simp; omega) ?_; intro v' w3 hown' hgrow3 hnil3
               have hbw3 : Below w.heap.size w w3 := Below.grown (HB.out.alloc HB.out.size _) hgrow3 (by have := HB.out.size; simp; omega) (fun j hj => (hown.lt _ hj).1)
               have X : Aside (w3.ownsRow w.heap.size 9 1 v' (acc ++ [s.extract fr pos]).length (strCells (acc ++ [s.extract fr pos])) ∧ Below w.heap.size w w3) := ⟨by simpa [strCells] using hown', hbw3⟩
               clear hown' hgrow3 hnil3 hbw3))
        go_roundw
        case rel => exact ⟨pos + 1, f, pos + 1, _, X.out.1, X.out.2, by go_num, by go_num, HN, by omega, by simp; omega, by omega⟩
        case measure => simp [intOf]; omega
      · have HN : Hid (acc ++ cutAt s a f (pos + 1) fr = cutS s a) := by
          show _ = _
          rw [← HS.out, cutAt, if_neg (by rw [hg]; exact hq)]
        have hq2 : (((s[pos]'hp).toNat : Int) == (a : Int)) = false := by simp; omega
        clear hg hq
        go_wp2
        go_roundw
        case rel => exact ⟨pos + 1, f, fr, acc, hown, HB, rfl, by go_num, HN, by omega, by omega, by omega⟩
        case measure => simp [intOf]; omega
    · obtain rfl : fuel = 0 := by omega
      have HN : Hid (acc ++ [s.extract fr s.size] = cutS s a) := by
        show _ = _
        rw [← HS.out, cutAt]
      have hfs : fr ≤ s.size := by omega
      go_wp2_with (first
            | (at_builtin; refine wpList_append_own _ rfl _ _ 45 rfl w.heap.size 9 i0 (.string ByteArray.empty) 1 16 Tryz.underlying45 hi0 hz0 hz1 hz2 rfl (by decide) _ _ _ rfl (hown.alloc _) ⟨wr.heap.size, 0, none⟩ 1 1 [.string (s.extract fr s.size)] rfl rfl (cell_one_new _ _ _) (fun u hu => by simp at hu; subst hu; rfl) (by unfold maxLen; omega) (by omega) (by simp; omega) ?_; intro v' w3 hown' hgrow3 hnil3
               have hbw3 : Below w.heap.size w w3 := Below.grown (HB.out.alloc HB.out.size _) hgrow3 (by have := HB.out.size; simp; omega) (fun j hj => (hown.lt _ hj).1)
               have X : Aside (w3.ownsRow w.heap.size 9 1 v' (acc ++ [s.extract fr s.size]).length (strCells (acc ++ [s.extract fr s.size])) ∧ Below w.heap.size w w3) := ⟨by simpa [strCells] using hown', hbw3⟩
               clear hown' hgrow3 hnil3 hbw3))
      go_ret
      obtain ⟨ao, cap, e1, e2, e3⟩ := StrsAt.of_owns X.out.1
      rw [← HN.out]
      exact ⟨v', rfl, X.out.2, ao, cap, e1, e2, e3.mono (by omega) (Nat.le_refl _)⟩
end
end Go.Proofs.YtlbjjbolbopfmaaGreatDoor
