import Derived.Test.YtlbjjbolbopfmaaGreatDoorI09
import Derived.Test.YtlbjjbolbopfmaaGreatDoorI10
import Derived.Test.YtlbjjbolbopfmaaGreatDoorI07
import Derived.Deep.AppendLies
import Derived.Test.YtlbjjbolbopfmaaGreatDoorI01
import Derived.BigQuiet
import Derived.Deep.QuietTactic
namespace Go.Proofs.YtlbjjbolbopfmaaGreatDoor
set_option maxHeartbeats 4000000
set_option maxRecDepth 1000000
set_option linter.unusedVariables false
section
open Go.RowKit
def lnV (l : Ln) (ao : Option Addr) (cap : Nat) : Value := .agg #[.int .i64 l.1, .string l.2.to, .string l.2.name, .slice ao l.2.args.length cap, .string l.2.undo]
theorem z_e7 (a b : Ln) (a1 a2 : Option Addr) (c1 c2 : Nat) (w : World) (hl : b.2.args.length ≤ 4398046511104) (hi : StrsAt 0 w.heap.size w a2 b.2.args) :
  Calls Tryz.prog 208 #[lnV a a1 c1, lnV b a2 c2] w fun e w' => e = .returned (.bool (z_cW a b)) ∧ Below w.heap.size w w' := by
 have HI : Hid (StrsAt 0 w.heap.size w a2 b.2.args) := hi
 clear hi
 obtain ⟨k1, d1⟩ := a
 obtain ⟨k2, d2⟩ := b
 have HB : Hid (∀ L L' : Obj, Below w.heap.size w ((w.alloc L).alloc L')) := fun L L' => ((Below.refl _ _).alloc (Nat.le_refl _) _).alloc (by simp) _
 have hl2 : d2.args.length ≤ 4398046511104 := hl
 clear hl
 unfold lnV
 simp only
 cases q1 : d1.to.toList.isEmpty with
 | true =>
  have HN : Hid (z_cW (k1, d1) (k2, d2) = false) := by show (!(d1.to.toList.isEmpty) && _) = false; rw [q1]; rfl
  have q2 : (d1.to.toList == []) = true := by rw [← q1]; cases d1.to.toList <;> rfl
  go_enter Tryz.func208, Tryz.ntmps208
  go_wp2
  go_ret
  exact ⟨by rw [HN.out]; rfl, HB.out _ _⟩
 | false =>
  have q2 : (d1.to.toList == []) = false := by rw [← q1]; cases d1.to.toList <;> rfl
  have HM : Hid (z_cW (k1, d1) (k2, d2) = ((d1.to.toList == d2.to.toList) || hasB d2.args d1.to)) := by show (!(d1.to.toList.isEmpty) && _) = _; rw [q1]; rfl
  cases q3 : (d1.to.toList == d2.to.toList) with
  | true =>
   have HN : Hid (z_cW (k1, d1) (k2, d2) = true) := by show _ = _; rw [HM.out, q3]; rfl
   go_enter Tryz.func208, Tryz.ntmps208
   go_wp2
   go_ret
   exact ⟨by rw [HN.out]; rfl, HB.out _ _⟩
  | false =>
   have HN : Hid (z_cW (k1, d1) (k2, d2) = hasB d2.args d1.to) := by show _ = _; rw [HM.out, q3]; rfl
   go_enter Tryz.func208, Tryz.ntmps208
   go_wp2_with (go_at_call 162; refine (z_bN a2 c2 d2.args d1.to w.heap.size _ (by omega) (HI.out.below (HB.out _ _))).mono ?_; rintro e w' ⟨rfl, rfl⟩)
   go_ret
   exact ⟨by rw [HN.out]; rfl, HB.out _ _⟩
theorem z_fW (a b : Ln) (a1 a2 : Option Addr) (c1 c2 : Nat) (w : World) :
  Calls Tryz.prog 209 #[lnV a a1 c1, lnV b a2 c2] w fun e w' => e = .returned (.bool (sigB a b)) ∧ Below w.heap.size w w' := by
 obtain ⟨k1, d1⟩ := a
 obtain ⟨k2, d2⟩ := b
 have HB : Hid (∀ L L' : Obj, Below w.heap.size w ((w.alloc L).alloc L')) := fun L L' => ((Below.refl _ _).alloc (Nat.le_refl _) _).alloc (by simp) _
 have HM : Hid (sigB (k1, d1) (k2, d2) = ((k1 == 5) && ((k2 == 5) && (d1.name.toList == d2.name.toList)))) := rfl
 unfold lnV
 simp only
 cases q1 : (k1 == 5) <;> cases q2 : (k2 == 5) <;> cases q3 : (d1.name.toList == d2.name.toList)
 all_goals
  go_enter Tryz.func209, Tryz.ntmps209
  go_wp2
  go_ret
  exact ⟨by rw [HM.out, q1, q2, q3] <;> rfl, HB.out _ _⟩
end
section
open Go.RowKit
def BoxL (w : World) (p : Nat) (l : Ln) (ao : Option Addr) (cap : Nat) : Prop := w.heap[p]? = some (.cells #[.int .i64 l.1, .string l.2.to, .string l.2.name, .slice ao l.2.args.length cap, .string l.2.undo] 49 (0, 0))
theorem BoxL.cells {w : World} {p : Nat} {l : Ln} {ao : Option Addr} {cap : Nat} (h : BoxL w p l ao cap) : w.cell? ⟨p, 0, none⟩ = some (.int .i64 l.1) ∧ w.cell? ⟨p, 1, none⟩ = some (.string l.2.to) ∧ w.cell? ⟨p, 2, none⟩ = some (.string l.2.name) ∧ w.cell? ⟨p, 3, none⟩ = some (.slice ao l.2.args.length cap) ∧ w.cell? ⟨p, 4, none⟩ = some (.string l.2.undo) := by
 refine ⟨?_, ?_, ?_, ?_, ?_⟩ <;> (rw [cell_of_row w p _ _ _ _ h]; rfl)
theorem BoxL.lt {w : World} {p : Nat} {l : Ln} {ao : Option Addr} {cap : Nat} (h : BoxL w p l ao cap) : p < w.heap.size := (Array.getElem?_eq_some_iff.1 h).1
theorem BoxL.below {w w' : World} {B p : Nat} {l : Ln} {ao : Option Addr} {cap : Nat} (h : BoxL w p l ao cap) (hb : Below B w w') (hp : p < B) : BoxL w' p l ao cap := (hb.block p hp).trans h
theorem z_kO (xs ys : List Ln) (k : Nat) (h : k < xs.length) : z_a4 (xs.take (k + 1)) ys = (z_a4 (xs.take k) ys || ys.any fun b => z_eA xs[k] b) := by
 rw [List.take_succ_eq_append_getElem h, z_a4, List.any_append]; simp [z_a4]
theorem z_l2 {xs ys : List Ln} {k j : Nat} (h : k < xs.length) (h' : j < ys.length) (hp : z_eA xs[k] ys[j] = true) : z_a4 xs ys = true := by
 rw [z_a4, List.any_eq_true]
 exact ⟨xs[k], List.getElem_mem h, by rw [List.any_eq_true]; exact ⟨ys[j], List.getElem_mem h', hp⟩⟩
theorem z_mP (p : Ln → Bool) (ys : List Ln) (k : Nat) (h : k < ys.length) : (ys.take (k + 1)).any p = ((ys.take k).any p || p ys[k]) := by
 rw [List.take_succ_eq_append_getElem h, List.any_append]; simp
theorem z_lA (a1 a2 : Option Addr) (c1 c2 : Nat) (xs ys : List Ln) (w : World) (hx : xs.length ≤ 1000) (hy : ys.length ≤ 1000) (hzx : ∀ l ∈ xs, LnSz l) (hzy : ∀ l ∈ ys, LnSz l) (hix : LinesAt w.heap.size w a1 xs) (hiy : LinesAt w.heap.size w a2 ys) :
  Calls Tryz.prog 195 #[.slice a1 xs.length c1, .slice a2 ys.length c2] w fun e w' => e = .returned (.bool (z_a4 xs ys)) ∧ Below w.heap.size w w' := by
 have HX : Hid (LinesAt w.heap.size w a1 xs) := hix
 have HY : Hid (LinesAt w.heap.size w a2 ys) := hiy
 have HZX : Hid (∀ l ∈ xs, LnSz l) := hzx
 have HZY : Hid (∀ l ∈ ys, LnSz l) := hzy
 clear hix hiy hzx hzy
 go_enter Tryz.func195, Tryz.ntmps195
 go_wp2
 go_loopw [11] (fun i wr => ∃ (k : Nat), k ≤ xs.length ∧ i = .int .i64 k ∧ Hid (Below w.heap.size w wr) ∧ w.heap.size ≤ wr.heap.size ∧ Hid (z_a4 (xs.take k) ys = false)) (fun i _ => xs.length - (intOf i).toNat)
 case atStart => exact ⟨0, Nat.zero_le _, rfl, Below.refl _ _, Nat.le_refl _, rfl⟩
 case round =>
  obtain ⟨W1, hW1⟩ : ∃ W1, W1 = wr := ⟨_, rfl⟩
  subst hW1
  obtain ⟨k, hk, rfl, HB1, hws, HC⟩ := hrel
  by_cases hlt : k < xs.length
  ·obtain ⟨b, off, rfl, hB, aoA, capA, hcA, q0, q1, q2, q3, q4, hA⟩ := HX.out k hlt
   have c0 := (HB1.out.cell (p := ⟨b, off + k * 5, none⟩) hB).trans q0
   have c1 := (HB1.out.cell (p := ⟨b, off + k * 5 + 1, none⟩) hB).trans q1
   have c2 := (HB1.out.cell (p := ⟨b, off + k * 5 + 2, none⟩) hB).trans q2
   have c3 := (HB1.out.cell (p := ⟨b, off + k * 5 + 3, none⟩) hB).trans q3
   have c4 := (HB1.out.cell (p := ⟨b, off + k * 5 + 4, none⟩) hB).trans q4
   have HAr : Hid (StrsAt 0 w.heap.size w aoA xs[k].2.args) := hA
   have hlz := (HZX.out _ (List.getElem_mem hlt)).len
   have HSn : Hid (z_a4 (xs.take (k + 1)) ys = ys.any fun b => z_eA xs[k] b) := by show _ = _; rw [z_kO xs ys k hlt, HC.out]; rfl
   have HYes : Hid (∀ j (h : j < ys.length), z_eA xs[k] ys[j] = true → z_a4 xs ys = true) := fun j h hp => z_l2 hlt h hp
   clear q0 q1 q2 q3 q4 hA HC
   obtain ⟨L, hL⟩ : ∃ L, L = xs[k] := ⟨_, rfl⟩
   rw [← hL] at c0 c1 c2 c3 c4 HAr hcA hlz HSn HYes
   clear hL
   obtain ⟨ka, da⟩ := L
   simp only at c0 c1 c2 c3 c4 hcA hlz
   go_wp2
   go_loopw [17] (fun i wr => ∃ (j : Nat), j ≤ ys.length ∧ i = .int .i64 j ∧ Hid (Below w.heap.size w wr) ∧ w.heap.size ≤ wr.heap.size ∧ Hid (BoxL wr W1.heap.size (ka, da) aoA capA) ∧ Hid ((ys.take j).any (fun b => z_eA (ka, da) b) = false)) (fun i _ => ys.length - (intOf i).toNat)
   case atStart => exact ⟨0, Nat.zero_le _, rfl, HB1.out.alloc hws _, by simp; omega, heap_alloc_new W1 _, rfl⟩
   case round =>
    obtain ⟨j, hj, rfl, HB2, hwi, HBA, HCj⟩ := hrel
    by_cases hjt : j < ys.length
    ·obtain ⟨b2, off2, rfl, hBb, aoB, capB, hcB, q0, q1, q2, q3, q4, hAb⟩ := HY.out j hjt
     have e0 := (HB2.out.cell (p := ⟨b2, off2 + j * 5, none⟩) hBb).trans q0
     have e1 := (HB2.out.cell (p := ⟨b2, off2 + j * 5 + 1, none⟩) hBb).trans q1
     have e2 := (HB2.out.cell (p := ⟨b2, off2 + j * 5 + 2, none⟩) hBb).trans q2
     have e3 := (HB2.out.cell (p := ⟨b2, off2 + j * 5 + 3, none⟩) hBb).trans q3
     have e4 := (HB2.out.cell (p := ⟨b2, off2 + j * 5 + 4, none⟩) hBb).trans q4
     have HBr : Hid (StrsAt 0 w.heap.size w aoB ys[j].2.args) := hAb
     have hlz2 := (HZY.out _ (List.getElem_mem hjt)).len
     have HSj : Hid ((ys.take (j + 1)).any (fun b => z_eA (ka, da) b) = z_eA (ka, da) ys[j]) := by show _ = _; rw [z_mP _ ys j hjt, HCj.out]; rfl
     have HYj : Hid (z_eA (ka, da) ys[j] = true → z_a4 xs ys = true) := HYes.out j hjt
     clear q0 q1 q2 q3 q4 hAb HCj
     obtain ⟨L, hL⟩ : ∃ L, L = ys[j] := ⟨_, rfl⟩
     rw [← hL] at e0 e1 e2 e3 e4 HBr hcB hlz2 HSj HYj
     clear hL
     obtain ⟨kb, db⟩ := L
     simp only at e0 e1 e2 e3 e4 hcB hlz2
     obtain ⟨x0, x1, x2, x3, x4⟩ := HBA.out.cells
     have hpA := HBA.out.lt
     simp only at x0 x1 x2 x3 x4
     have HD : Hid (z_eA (ka, da) (kb, db) = (z_cW (ka, da) (kb, db) || (z_cW (kb, db) (ka, da) || sigB (ka, da) (kb, db)))) := rfl
     have HWa : Hid (∀ w', Below w.heap.size w w' → StrsAt 0 w'.heap.size w' aoA da.args) := fun w' h => HAr.out.later h
     have HWb : Hid (∀ w', Below w.heap.size w w' → StrsAt 0 w'.heap.size w' aoB db.args) := fun w' h => HBr.out.later h
     go_wp2_with fail
     have hbn : BoxL (wr.alloc (.cells #[.int .i64 kb, .string db.to, .string db.name, .slice aoB db.args.length capB, .string db.undo] 49)) wr.heap.size (kb, db) aoB capB := heap_alloc_new wr _
     have hban : BoxL (wr.alloc (.cells #[.int .i64 kb, .string db.to, .string db.name, .slice aoB db.args.length capB, .string db.undo] 49)) W1.heap.size (ka, da) aoA capA := HBA.out.below ((Below.refl _ _).alloc (Nat.le_refl _) _) hpA
     have HBn : Hid (Below w.heap.size w (wr.alloc (.cells #[.int .i64 kb, .string db.to, .string db.name, .slice aoB db.args.length capB, .string db.undo] 49))) := HB2.out.alloc hwi _
     refine (z_e7 (ka, da) (kb, db) aoA aoB capA capB _ (by simp only; omega) (HWb.out _ HBn.out)).mono ?_
     rintro e w4 ⟨rfl, hb4⟩
     have HB4 : Hid (Below w.heap.size w w4) := HBn.out.trans (hb4.mono (by simp; omega))
     have HA4 : Hid (BoxL w4 W1.heap.size (ka, da) aoA capA) := hban.below hb4 (by simp; omega)
     have HB5 : Hid (BoxL w4 wr.heap.size (kb, db) aoB capB) := hbn.below hb4 (by simp)
     obtain ⟨x0, x1, x2, x3, x4⟩ := HA4.out.cells
     obtain ⟨y0, y1, y2, y3, y4⟩ := HB5.out.cells
     simp only at x0 x1 x2 x3 x4 y0 y1 y2 y3 y4
     have hw4 : wr.heap.size < w4.heap.size := HB5.out.lt
     clear hbn hban hb4
     cases m1 : z_cW (ka, da) (kb, db) with
     | true =>
      have HN : Hid (z_a4 xs ys = true) := HYj.out (by rw [HD.out, m1]; rfl)
      go_wp2
      go_ret
      exact ⟨by rw [HN.out]; rfl, HB4.out⟩
     | false =>
      go_wp2_with fail
      refine (z_e7 (kb, db) (ka, da) aoB aoA capB capA _ (by simp only; omega) (HWa.out _ HB4.out)).mono ?_
      rintro e w5 ⟨rfl, hb5⟩
      have HB5' : Hid (Below w.heap.size w w5) := HB4.out.trans (hb5.mono (by omega))
      have HA6 : Hid (BoxL w5 W1.heap.size (ka, da) aoA capA) := HA4.out.below hb5 (by omega)
      have HB6 : Hid (BoxL w5 wr.heap.size (kb, db) aoB capB) := HB5.out.below hb5 hw4
      obtain ⟨x0, x1, x2, x3, x4⟩ := HA6.out.cells
      obtain ⟨y0, y1, y2, y3, y4⟩ := HB6.out.cells
      simp only at x0 x1 x2 x3 x4 y0 y1 y2 y3 y4
      have hw5 : wr.heap.size < w5.heap.size := HB6.out.lt
      clear hb5
      cases m2 : z_cW (kb, db) (ka, da) with
      | true =>
       have HN : Hid (z_a4 xs ys = true) := HYj.out (by rw [HD.out, m1, m2]; rfl)
       go_wp2
       go_ret
       exact ⟨by rw [HN.out]; rfl, HB5'.out⟩
      | false =>
       go_wp2_with fail
       refine (z_fW (ka, da) (kb, db) aoA aoB capA capB _).mono ?_
       rintro e w6 ⟨rfl, hb6⟩
       have HB7 : Hid (Below w.heap.size w w6) := HB5'.out.trans (hb6.mono (by omega))
       have HA7 : Hid (BoxL w6 W1.heap.size (ka, da) aoA capA) := HA6.out.below hb6 (by omega)
       have hw6 : w.heap.size ≤ w6.heap.size := by have := hb6.size; omega
       clear hb6
       cases m3 : sigB (ka, da) (kb, db) with
       | true =>
        have HN : Hid (z_a4 xs ys = true) := HYj.out (by rw [HD.out, m1, m2, m3]; rfl)
        go_wp2
        go_ret
        exact ⟨by rw [HN.out]; rfl, HB7.out⟩
       | false =>
        have HN : Hid ((ys.take (j + 1)).any (fun b => z_eA (ka, da) b) = false) := by show _ = _; rw [HSj.out, HD.out, m1, m2, m3]; rfl
        go_wp2
        go_roundw
        case rel => exact ⟨j + 1, by omega, by go_num, HB7, hw6, HA7, HN⟩
        case measure => simp [intOf]; omega
    ·have e0 : ys.take j = ys := List.take_of_length_le (by omega)
     have HN : Hid (z_a4 (xs.take (k + 1)) ys = false) := by show _ = _; rw [HSn.out, ← e0]; exact HCj.out
     go_wp2
     go_roundw
     case rel => exact ⟨k + 1, by omega, by go_num, HB2, hwi, HN⟩
     case measure => simp [intOf]; omega
  ·have e0 : xs.take k = xs := List.take_of_length_le (by omega)
   have HN : Hid (z_a4 xs ys = false) := by show _ = _; rw [← e0]; exact HC.out
   go_wp2
   go_ret
   exact ⟨by rw [HN.out]; rfl, HB1.out⟩
end
section
open Go.RowKit
theorem z_l0 (a b : List ByteArray) (k : Nat) (h : k < a.length) : comm (a.take (k + 1)) b = comm (a.take k) b ++ if hasB b a[k] = true then [a[k]] else [] := by
 rw [List.take_succ_eq_append_getElem h, comm, List.filter_append]
 congr 1
 simp [List.filter_cons]
theorem z_eI (a b : List ByteArray) : (comm a b).length ≤ a.length := List.length_filter_le _ _
theorem z_gn (a1 a2 : Option Addr) (c1 c2 : Nat) (xs ys : List ByteArray) (w : World) (hx : xs.length ≤ 4398046511000) (hy : ys.length ≤ 4398046511000) (h1 : StrsAt 0 w.heap.size w a1 xs) (h2 : StrsAt 0 w.heap.size w a2 ys) :
  Calls Tryz.prog 193 #[.slice a1 xs.length c1, .slice a2 ys.length c2] w fun e w' => ∃ v, e = .returned v ∧ Below w.heap.size w w' ∧ w'.ownsRow w.heap.size 9 1 v (comm xs ys).length (strCells (comm xs ys)) := by
 obtain ⟨i0, hi0, hz0, hz1, hz2⟩ := info_parts Tryz.infoStr
 have H1 : Hid (StrsAt 0 w.heap.size w a1 xs) := h1
 have H2 : Hid (StrsAt 0 w.heap.size w a2 ys) := h2
 clear h1 h2
 go_enter Tryz.func193, Tryz.ntmps193
 go_wp2
 go_loopw [5, 10] (fun x i wr => ∃ (k : Nat), k ≤ xs.length ∧ i = .int .i64 k ∧ Hid (wr.ownsRow w.heap.size 9 1 x (comm (xs.take k) ys).length (strCells (comm (xs.take k) ys))) ∧ Hid (Below w.heap.size w wr) ∧ w.heap.size ≤ wr.heap.size) (fun _ i _ => xs.length - (intOf i).toNat)
 case atStart => exact ⟨0, Nat.zero_le _, rfl, World.ownsRow_nil _ _ _ _, Below.refl _ _, Nat.le_refl _⟩
 case round =>
  obtain ⟨k, hk, rfl, HO1, HB1, hws⟩ := hrel
  by_cases hlt : k < xs.length
  ·obtain ⟨b, off, rfl, hB, hc0⟩ := H1.out.at k hlt
   have hc := (HB1.out.cell (p := ⟨b, off + k, none⟩) hB.2).trans hc0
   have HSn := z_l0 xs ys k hlt
   have HS : Hid (comm (xs.take (k + 1)) ys = comm (xs.take k) ys ++ if hasB ys xs[k] = true then [xs[k]] else []) := HSn
   have hcl := z_eI (xs.take k) ys
   have hcl2 : (xs.take k).length ≤ k := List.length_take_le _ _
   obtain ⟨x, hx⟩ : ∃ x, x = xs[k] := ⟨_, rfl⟩
   rw [← hx] at hc HS
   obtain ⟨A, hA⟩ : ∃ A, A = comm (xs.take k) ys := ⟨_, rfl⟩
   rw [← hA] at HO1 HS hcl
   clear hx hA hc0 HSn
   have H2w : Hid (StrsAt 0 w.heap.size wr a2 ys) := H2.out.below HB1.out
   cases hh : hasB ys x with
   | true =>
    have HN : Hid (comm (xs.take (k + 1)) ys = A ++ [x]) := by show _ = _; rw [HS.out, hh]; rfl
    go_wp2_with (first
     | (go_at_call 162; refine (z_bN a2 c2 ys x w.heap.size wr (by omega) H2w.out).mono ?_; rintro e wr ⟨rfl, rfl⟩; rw [hh])
     | (at_builtin; refine wpList_append_own _ rfl _ _ 45 rfl w.heap.size 9 i0 (.string ByteArray.empty) 1 16 Tryz.underlying45 hi0 hz0 hz1 hz2 rfl (by decide) _ _ _ rfl (HO1.out.alloc _) ⟨wr.heap.size, 0, none⟩ 1 1 [.string x] rfl rfl (cell_one_new _ _ _) (fun u hu => by simp at hu; subst hu; rfl) (by unfold maxLen; omega) (by omega) (by simp; omega) ?_; intro v' w3 hown' hgrow3 hnil3; have X : Aside (w3.ownsRow w.heap.size 9 1 v' (A ++ [x]).length (strCells (A ++ [x])) ∧ Below w.heap.size w w3) := ⟨by simpa [strCells] using hown', HB1.out.trans (((Below.refl _ _).alloc (Nat.le_refl _) _ |>.mono hws).trans (z_dy hgrow3 (by simp; omega) (fun j hj => (HO1.out.lt j hj).1)))⟩; have hws3 := X.out.2.size; have hw1 := hgrow3.size; clear hown' hgrow3 hnil3))
    go_roundw
    case rel => exact ⟨k + 1, by omega, by go_num, (show Hid _ by rw [HN.out]; exact X.out.1), X.out.2, by omega⟩
    case measure => simp [intOf]; omega
   | false =>
    have HN : Hid (comm (xs.take (k + 1)) ys = A) := by show _ = _; rw [HS.out, hh]; simp
    go_wp2_with (go_at_call 162; refine (z_bN a2 c2 ys x w.heap.size wr (by omega) H2w.out).mono ?_; rintro e wr ⟨rfl, rfl⟩; rw [hh])
    go_roundw
    case rel => exact ⟨k + 1, by omega, by go_num, (show Hid _ by rw [HN.out]; exact HO1), HB1, hws⟩
    case measure => simp [intOf]; omega
  ·have e0 : xs.take k = xs := List.take_of_length_le (by omega)
   rw [e0] at HO1
   go_wp2
   go_ret
   exact ⟨_, rfl, HB1.out, HO1.out⟩
end
section
open Go.RowKit
theorem z_d1 (q : Nat) (a b v d : Value) (ks : List ByteArray) (s : ByteArray) (base : Nat) (w : World) (hq : WObj w q a b v d) (ho : w.ownsRow base 9 1 v ks.length (strCells ks)) (hl : ks.length ≤ 4398046511000) (hs : s.size ≤ 2199023255552) (he : Env w) :
  Calls Tryz.prog 165 #[.pointer (some ⟨q, 0, none⟩), .string s] w fun e w' => e = .returned (.bool (z_ce ks s)) ∧ Below w.heap.size w w' := by
 have HQ : Hid (WObj w q a b v d) := hq
 have HO : Hid (w.ownsRow base 9 1 v ks.length (strCells ks)) := ho
 have HD : Hid (z_ce ks s = (numB s || hasB ks s)) := rfl
 clear hq ho
 go_enter Tryz.func165, Tryz.ntmps165
 go_wp2_with fail
 refine (z_eh s w hs he).mono ?_
 rintro e w1 ⟨rfl, hb1⟩
 have HB1 : Hid (Below w.heap.size w w1) := hb1
 have HO1 : Hid (w1.ownsRow base 9 1 v ks.length (strCells ks)) := z_ay HO.out hb1
 have c2 := (HQ.out.below hb1).c2
 clear hb1 he
 cases hn : numB s with
 | true =>
  go_wp2
  go_ret
  exact ⟨by rw [HD.out, hn]; rfl, HB1.out⟩
 | false =>
  go_wp2_with (go_at_call 126; refine (z_cN q 2 v ks s base w1 (by omega) c2 HO1.out).mono ?_; rintro e w1 ⟨rfl, rfl⟩)
  go_ret
  exact ⟨by rw [HD.out, hn]; rfl, HB1.out⟩
theorem z_eB (q : Nat) (a b v d : Value) (ks : List ByteArray) (base : Nat) (ao : Option Addr) (cap : Nat) (ss : List ByteArray) (w : World) (hq : WObj w q a b v d) (ho : w.ownsRow base 9 1 v ks.length (strCells ks)) (hlk : ks.length ≤ 4398046511000)
  (hl : ss.length ≤ 9223372036854775807) (hs : ∀ s ∈ ss, s.size ≤ 2199023255552) (hi : StrsAt 0 w.heap.size w ao ss) (he : Env w) :
  Calls Tryz.prog 164 #[.slice ao ss.length cap, .func (.func 165) #[.pointer (some ⟨q, 0, none⟩)] #[]] w fun e w' => e = .returned (.bool (allB (z_ce ks) ss)) ∧ Below w.heap.size w w' := by
 have HI : Hid (StrsAt 0 w.heap.size w ao ss) := hi
 have HSz : Hid (∀ s ∈ ss, s.size ≤ 2199023255552) := hs
 have HE : Hid (Env w) := he
 have HQ : Hid (∀ w', Below w.heap.size w w' → WObj w' q a b v d) := fun w' h => hq.below h
 have HO : Hid (∀ w', Below w.heap.size w w' → w'.ownsRow base 9 1 v ks.length (strCells ks)) := fun w' h => z_ay ho h
 clear hi hs he hq ho
 go_enter Tryz.func164, Tryz.ntmps164
 go_wp2
 go_loopw [9] (fun i wr => ∃ k : Nat, k ≤ ss.length ∧ i = .int .i64 k ∧ Hid (Below w.heap.size w wr) ∧ Hid (allB (z_ce ks) (ss.take k) = true)) (fun i _ => ss.length - (intOf i).toNat)
 case atStart => exact ⟨0, Nat.zero_le _, rfl, Below.refl _ _, rfl⟩
 case round =>
  obtain ⟨k, hk, rfl, HB, HA⟩ := hrel
  by_cases hlt : k < ss.length
  ·obtain ⟨bb, off, rfl, hB', hc0⟩ := HI.out.at k hlt
   have hc := (HB.out.cell (p := ⟨bb, off + k, none⟩) (by show bb < _; omega)).trans hc0
   clear hc0
   cases hn : z_ce ks ss[k] with
   | true =>
    have HN : Hid (allB (z_ce ks) (ss.take (k + 1)) = true) := by show _ = _; rw [z_c1 _ _ _ hlt, HA.out, hn]; rfl
    go_wp2_with (go_at_call 165; refine (z_d1 q a b v d ks _ base wr (HQ.out _ HB.out) (HO.out _ HB.out) hlk (HSz.out _ (List.getElem_mem hlt)) (HE.out.later HB.out)).mono ?_; rintro e w1 ⟨rfl, hb1⟩; rw [hn]; have HB1 : Hid (Below w.heap.size w w1) := HB.out.trans (hb1.mono HB.out.size); clear hb1)
    go_roundw
    case rel => exact ⟨k + 1, by omega, by go_num, HB1, HN⟩
    case measure => simp [intOf]; omega
   | false =>
    have HN : Hid (allB (z_ce ks) ss = false) := z_fG _ _ _ hlt hn
    go_wp2_with (go_at_call 165; refine (z_d1 q a b v d ks _ base wr (HQ.out _ HB.out) (HO.out _ HB.out) hlk (HSz.out _ (List.getElem_mem hlt)) (HE.out.later HB.out)).mono ?_; rintro e w1 ⟨rfl, hb1⟩; rw [hn]; have HB1 : Hid (Below w.heap.size w w1) := HB.out.trans (hb1.mono HB.out.size); clear hb1)
    go_ret
    exact ⟨by rw [HN.out]; rfl, HB1.out⟩
  ·have HN : Hid (allB (z_ce ks) ss = true) := by
    have e0 : ss.take k = ss := List.take_of_length_le (by omega)
    rw [← e0]; exact HA.out
   go_wp2
   go_ret
   exact ⟨by rw [HN.out]; rfl, HB.out⟩
theorem z_fl (q : Nat) (a v d : Value) (at_ : Nat) (c : Int) (w : World) (hq : WObj w q a (.int .i64 at_) v d) (hc : c ≠ 0) (hat : at_ ≤ 1000) :
  Calls Tryz.prog 163 #[.pointer (some ⟨q, 0, none⟩), .int .i64 c] w fun e w' => (∃ v, e = .returned v ∧ z_d8 v) ∧ w' = w := by
 have c1 := hq.c1
 clear hq
 go_enter Tryz.func163, Tryz.ntmps163
 go_wp2
 go_ret
 exact ⟨⟨_, rfl, _, _, rfl, hc⟩, rfl⟩
end
section
open Go.RowKit
def z_nM (w : World) (ok : Bool) (e : Ending) (w' : World) : Prop := ∃ v, e = .returned v ∧ Below w.heap.size w w' ∧ ((v = .nilIface ∧ ok = true) ∨ (z_d8 v ∧ ok = false))
theorem z_gL (q : Nat) (ao : Option Addr) (cap : Nat) (ls : List Ln) (at_ : Nat) (v : Value) (boths : Nat) (ks : List ByteArray) (base : Nat) (live : Bool) (w : World)
  (hq : WObj w q (.slice ao ls.length cap) (.int .i64 at_) v (.int .i64 boths)) (ho : w.ownsRow base 9 1 v ks.length (strCells ks)) (hlk : ks.length ≤ 4398046511000) (hat : at_ < ls.length) (hl : ls.length ≤ 60) (hbo : boths ≤ 1000)
  (hi : LinesAt w.heap.size w ao ls) (hz : LnSz ls[at_]) (he : Env w) :
  Calls Tryz.prog 129 #[.pointer (some ⟨q, 0, none⟩), .bool live] w fun e w' => z_nM w (z_bl ks (decide (0 < boths)) live ls[at_]) e w' := by
 obtain ⟨b, off, rfl, hB, aoA, capA, hcA, q0, q1, q2, q3, q4, hA⟩ := hi at_ hat
 obtain ⟨L, hL⟩ : ∃ L, L = ls[at_] := ⟨_, rfl⟩
 rw [← hL] at q0 q1 q2 q3 q4 hA hcA hz ⊢
 clear hL
 obtain ⟨kd, dd⟩ := L
 obtain ⟨z1, z2, z3, z4, z5⟩ := hz
 simp only at q0 q1 q2 q3 q4 hA hcA z1 z2 z3 z4 z5
 have HD : Hid (z_bl ks (decide (0 < boths)) live (kd, dd) = (live && (allB (z_ce ks) dd.args && !(z_a3 kd && decide (0 < boths))))) := rfl
 have HZ5 : Hid (∀ s ∈ dd.args, s.size ≤ 1048576) := z5
 have HA : Hid (StrsAt 0 w.heap.size w aoA dd.args) := hA
 have HE : Hid (Env w) := he
 have w0 := hq.c0
 have w1 := hq.c1
 have HQ : Hid (WObj w q (.slice (some ⟨b, off, none⟩) ls.length cap) (.int .i64 at_) v (.int .i64 boths)) := hq
 have HO : Hid (w.ownsRow base 9 1 v ks.length (strCells ks)) := ho
 have hqlt := hq.lt
 have hmf : ∀ (fn : Fn) (first cap : Array Value) (w : World), (Instr.makeFunc fn first cap).run Tryz.prog w = .ok (.func fn first cap) w := fun _ _ _ _ => rfl
 have hbx : BoxL (w.alloc (.cells #[.int .i64 kd, .string dd.to, .string dd.name, .slice aoA dd.args.length capA, .string dd.undo] 49)).drew w.heap.size (kd, dd) aoA capA := heap_alloc_new w _
 have HB1 : Hid (Below w.heap.size w (w.alloc (.cells #[.int .i64 kd, .string dd.to, .string dd.name, .slice aoA dd.args.length capA, .string dd.undo] 49)).drew) := ((Below.refl _ _).alloc (Nat.le_refl _) _).drew
 clear hi hq hA ho he z5
 cases live with
 | false =>
  have HN : Hid (z_bl ks (decide (0 < boths)) false (kd, dd) = false) := rfl
  go_enter Tryz.func129, Tryz.ntmps129
  go_wp2
  go_region
  all_goals (try go_wp2_with fail)
  refine (z_fl q _ v _ at_ 7 _ (HQ.out.below HB1.out) (by decide) (by omega)).mono ?_
  rintro e w' ⟨⟨ve, rfl, hle⟩, rfl⟩
  go_wp2
  go_ret
  exact ⟨_, rfl, HB1.out, .inr ⟨hle, HN.out⟩⟩
 | true =>
  go_enter Tryz.func129, Tryz.ntmps129
  go_wp2
  go_region
  all_goals (try go_wp2_with fail)
  obtain ⟨W1, hW1⟩ : ∃ W1, W1 = (w.alloc (.cells #[.int .i64 kd, .string dd.to, .string dd.name, .slice aoA dd.args.length capA, .string dd.undo] 49)).drew := ⟨_, rfl⟩
  rw [← hW1] at hbx HB1 ⊢
  clear hW1
  refine (z_eB q _ _ v _ ks base aoA capA dd.args W1 (HQ.out.below HB1.out) (z_ay HO.out HB1.out) hlk (by omega) (fun s hs => by have := HZ5.out s hs; omega) (HA.out.later HB1.out) (HE.out.later HB1.out)).mono ?_
  rintro e W2 ⟨rfl, hb2⟩
  have HB2 : Hid (Below w.heap.size w W2) := HB1.out.trans (hb2.mono HB1.out.size)
  have hbx2 : BoxL W2 w.heap.size (kd, dd) aoA capA := hbx.below hb2 hbx.lt
  obtain ⟨y0, y1, y2, y3, y4⟩ := hbx2.cells
  simp only at y0 y1 y2 y3 y4
  have hq2 := HQ.out.below HB2.out
  have u3 := hq2.c3
  have HQ2 : Hid (WObj W2 q (.slice (some ⟨b, off, none⟩) ls.length cap) (.int .i64 at_) v (.int .i64 boths)) := hq2
  clear hb2 hbx hbx2 hq2
  cases hk : allB (z_ce ks) dd.args with
  | false =>
   have HN : Hid (z_bl ks (decide (0 < boths)) true (kd, dd) = false) := by show _ = _; rw [HD.out, hk]; rfl
   go_wp2_with (go_at_call 163; refine (z_fl q _ v _ at_ 4 _ HQ2.out (by decide) (by omega)).mono ?_; rintro e w' ⟨⟨ve, rfl, hle⟩, rfl⟩)
   go_ret
   exact ⟨_, rfl, HB2.out, .inr ⟨hle, HN.out⟩⟩
  | true =>
   cases hlv : z_a3 kd with
   | false =>
    have HN : Hid (z_bl ks (decide (0 < boths)) true (kd, dd) = true) := by show _ = _; rw [HD.out, hk, hlv]; rfl
    go_wp2_with (go_at_call 166; refine (z_cI _ _).mono ?_; rintro e W2 ⟨rfl, rfl⟩; rw [hlv])
    go_ret
    exact ⟨_, rfl, HB2.out, .inl ⟨rfl, HN.out⟩⟩
   | true =>
    cases hb0 : decide (0 < boths) with
    | true =>
     have HN : Hid (z_bl ks (decide (0 < boths)) true (kd, dd) = false) := by show _ = _; rw [HD.out, hk, hlv, hb0]; rfl
     have hb1 : 0 < boths := by simpa using hb0
     go_wp2_with (first
      | (go_at_call 166; refine (z_cI _ _).mono ?_; rintro e W2 ⟨rfl, rfl⟩; rw [hlv])
      | (go_at_call 163; refine (z_fl q _ v _ at_ 2 _ HQ2.out (by decide) (by omega)).mono ?_; rintro e w' ⟨⟨ve, rfl, hle⟩, rfl⟩))
     go_ret
     exact ⟨_, rfl, HB2.out, .inr ⟨hle, HN.out⟩⟩
    | false =>
     have HN : Hid (z_bl ks false true (kd, dd) = true) := by show (_ && (allB (z_ce ks) dd.args && !(z_a3 kd && false))) = true; rw [hk, hlv]; rfl
     have hb1 : boths = 0 := by simpa using hb0
     subst hb1
     go_wp2_with (first
      | (go_at_call 166; refine (z_cI _ _).mono ?_; rintro e W2 ⟨rfl, rfl⟩; rw [hlv]))
     go_ret
     exact ⟨_, rfl, HB2.out, .inl ⟨rfl, HN.out⟩⟩
end
section
open Go.RowKit
def EnvQ (q : Nat) (w : World) : Prop := ∃ w0, Env w0 ∧ w0.heap.size ≤ q ∧ Below w0.heap.size w0 w
theorem EnvQ.env {q : Nat} {w : World} (h : EnvQ q w) : Env w := by
 obtain ⟨w0, h0, _, hb⟩ := h
 exact h0.later hb
theorem EnvQ.keep {q : Nat} {w w' : World} (h : EnvQ q w) (hb : Below q w w') : EnvQ q w' := by
 obtain ⟨w0, h0, hq, hb0⟩ := h
 exact ⟨w0, h0, hq, hb0.trans (hb.mono hq)⟩
inductive ErrC : Value → Prop where
 | base (v : Value) : z_d8 v → ErrC v
 | within (p : ByteArray) (n : Int) (v : Value) : ErrC v → ErrC (.iface 231 (.agg #[.string p, .int .i64 n, v]))
structure WkSt (q base : Nat) (ao : Option Addr) (cap : Nat) (ls : List Ln) (w : World) (at_ boths : Nat) (ks : List ByteArray) (v : Value) : Prop where
 obj : WObj w q (.slice ao ls.length cap) (.int .i64 at_) v (.int .i64 boths)
 own : w.ownsRow base 9 1 v ks.length (strCells ks)
 lines : LinesAt q w ao ls
 env : EnvQ q w
 qb : q < base
 bw : base ≤ w.heap.size
def PartEnd (q base : Nat) (ao : Option Addr) (cap : Nat) (ls : List Ln) (at2 boths : Nat) (ks : List ByteArray) (v : Value) (w : World) (res : Option (List ByteArray × Bool)) (e : Ending) (w' : World) : Prop :=
 Wk q v.ownBlock w w' ∧ match res with
  | none => ∃ er v' at3, e = .returned (.tuple #[.agg #[.slice none 0 0, .bool false], er]) ∧ ErrC er ∧ WkSt q base ao cap ls w' at3 boths ks v' ∧ RowTo w v v'
  | some (g, c) => ∃ gv v', e = .returned (.tuple #[.agg #[gv, .bool c], .nilIface]) ∧ WkSt q base ao cap ls w' at2 boths ks v' ∧ RowTo w v v' ∧ w'.ownsRow w.heap.size 9 1 gv g.length (strCells g) ∧ ∀ k, gv.ownBlock = some k → v'.ownBlock ≠ some k
section
variable {q base : Nat} {ao : Option Addr} {cap : Nat} {ls : List Ln} {w w' w'' : World} {at_ boths : Nat} {ks : List ByteArray} {v v' : Value}
theorem WkSt.row_lt (h : WkSt q base ao cap ls w at_ boths ks v) {k : Nat} (hk : v.ownBlock = some k) : base ≤ k ∧ k < w.heap.size := h.own.lt k hk
theorem Wk.belowq (hk : Wk q v.ownBlock w w') (h : WkSt q base ao cap ls w at_ boths ks v) : Below q w w' :=
 hk.below q (Nat.le_refl _) (by have := h.qb; have := h.bw; omega) (fun k hk => by have := (h.row_lt hk).1; have := h.qb; omega)
theorem ErrC.form {v : Value} (h : ErrC v) : ∃ t x, v = .iface t x := by
 cases h with
 | base _ h => obtain ⟨a, b, rfl, _⟩ := h; exact ⟨_, _, rfl⟩
 | within => exact ⟨_, _, rfl⟩
theorem WkSt.to (h : WkSt q base ao cap ls w at_ boths ks v) (hk : Wk q v.ownBlock w w') {at2 boths2 : Nat} {ks2 : List ByteArray} (ho : WObj w' q (.slice ao ls.length cap) (.int .i64 at2) v' (.int .i64 boths2)) (hw : w'.ownsRow base 9 1 v' ks2.length (strCells ks2)) : WkSt q base ao cap ls w' at2 boths2 ks2 v' :=
 ⟨ho, hw, h.lines.below (hk.belowq h), h.env.keep (hk.belowq h), h.qb, Nat.le_trans h.bw hk.size⟩
theorem WkSt.grown {p : Nat} (h : WkSt q base ao cap ls w at_ boths ks v) (hg : w.grownBy w' (some p)) (hp : p ≠ q) (hv : v.ownBlock ≠ some p) (hq : q ≤ p) : WkSt q base ao cap ls w' at_ boths ks v := by
 have hb : Below q w w' := ⟨hg.os, hg.tape, hg.output, hg.size, fun k hk => hg.block k (by have := h.qb; have := h.bw; omega) (by simp; omega)⟩
 exact ⟨h.obj.keep (hg.block q h.obj.lt (by simpa using fun e => hp e.symm)), z_b8 h.own (fun k hk => hg.block k (h.row_lt hk).2 (fun e => hv (by rw [hk, e]))), h.lines.below hb, h.env.keep hb, h.qb, Nat.le_trans h.bw hg.size⟩
theorem WkSt.below (h : WkSt q base ao cap ls w at_ boths ks v) (hb : Below w.heap.size w w') : WkSt q base ao cap ls w' at_ boths ks v := by
 have hbq : Below q w w' := hb.mono (by have := h.qb; have := h.bw; omega)
 exact ⟨h.obj.below hb, z_ay h.own hb, h.lines.below hbq, h.env.keep hbq, h.qb, Nat.le_trans h.bw hb.size⟩
theorem WkSt.set1 (h : WkSt q base ao cap ls w at_ boths ks v) (n : Nat) : WkSt q base ao cap ls (w.setCell ⟨q, 1, none⟩ (.int .i64 n)) n boths ks v :=
 h.to (Wk.of_set 1 _) (h.obj.set1 _) (z_ad h.own (fun e => by have := (h.row_lt e).1; have := h.qb; omega) _)
theorem WkSt.set3 (h : WkSt q base ao cap ls w at_ boths ks v) (n : Nat) : WkSt q base ao cap ls (w.setCell ⟨q, 3, none⟩ (.int .i64 n)) at_ n ks v :=
 h.to (Wk.of_set 3 _) (h.obj.set3 _) (z_ad h.own (fun e => by have := (h.row_lt e).1; have := h.qb; omega) _)
theorem WkSt.linesW (h : WkSt q base ao cap ls w at_ boths ks v) : LinesAt w.heap.size w ao ls := h.lines.mono (by have := h.qb; have := h.bw; omega)
theorem RowTo.ne {k : Nat} (hr : RowTo w v v') (hk : k < w.heap.size) (hv : v.ownBlock ≠ some k) : v'.ownBlock ≠ some k := fun e => by
 rcases hr with h | h
 ·exact hv (h ▸ e)
 ·have := h k e; omega
end
theorem WkSt.wrote {q base p : Nat} {ao : Option Addr} {cap : Nat} {ls : List Ln} {w : World} {at_ boths : Nat} {ks : List ByteArray} {v : Value} (h : WkSt q base ao cap ls w at_ boths ks v) (hp : p ≠ q) (hv : v.ownBlock ≠ some p) (hq : q ≤ p) (u0 u1 : Value) :
  WkSt q base ao cap ls ((w.setCell ⟨p, 0, none⟩ u0).setCell ⟨p, 1, none⟩ u1) at_ boths ks v :=
 h.grown (z_ah (z_aj p 0 u0) (z_aj p 1 u1) (.inl rfl)) hp hv hq
theorem z_aD {q p : Nat} {row : Option Nat} {w w' : World} (h : Wk q row w w') (hp : w.heap.size ≤ p) (u0 u1 : Value) : Wk q row w ((w'.setCell ⟨p, 0, none⟩ u0).setCell ⟨p, 1, none⟩ u1) :=
 h.trans (Wk.of_grown (z_ah (z_aj p 0 u0) (z_aj p 1 u1) (.inl rfl))) (.inr fun k hk => by cases hk; exact hp)
theorem z_a6 {w : World} {base n p : Nat} {v : Value} {xs : List Value} (h : w.ownsRow base 9 1 v n xs) (hv : v.ownBlock ≠ some p) (u0 u1 : Value) : ((w.setCell ⟨p, 0, none⟩ u0).setCell ⟨p, 1, none⟩ u1).ownsRow base 9 1 v n xs :=
 z_ad (z_ad h hv u0) hv u1
def z_a0 (q base : Nat) (ao : Option Addr) (cap : Nat) (ls : List Ln) (F : Nat) (at_ at2 boths : Nat) (ks : List ByteArray) (res : Option (List ByteArray × Bool)) : Prop :=
 ∀ (w : World) (v : Value), WkSt q base ao cap ls w at_ boths ks v → Calls Tryz.prog F #[.pointer (some ⟨q, 0, none⟩)] w (PartEnd q base ao cap ls at2 boths ks v w res)
end
section
open Go.RowKit
theorem z_d (q base : Nat) (ao : Option Addr) (cap : Nat) (ls : List Ln) (at_ at2 boths : Nat) (ks : List ByteArray) (res : Option (List ByteArray × Bool)) (hat : at_ ≤ 1000)
  (H : z_a0 q base ao cap ls 95 (at_ + 1) at2 boths ks res) : z_a0 q base ao cap ls 192 at_ at2 boths ks res := by
 intro w v hs
 have HH : Hid (z_a0 q base ao cap ls 95 (at_ + 1) at2 boths ks res) := H
 have HS : Hid (WkSt q base ao cap ls w at_ boths ks v) := hs
 have c1 := hs.obj.c1
 have f1 := hs.obj.f 1
 have hqlt := hs.obj.lt
 clear H hs
 go_enter Tryz.func192, Tryz.ntmps192
 go_wp2_with fail
 have e1 : ((at_ + 1 : Nat) : Int) = (at_ : Int) + 1 := by omega
 obtain ⟨W1, hW1⟩ : ∃ W1, W1 = (w.setCell ⟨q, 1, none⟩ (.int .i64 ((at_ : Int) + 1))).alloc (.cells #[.slice none 0 0, .bool false] 138) := ⟨_, rfl⟩
 have hs1 : WkSt q base ao cap ls W1 (at_ + 1) boths ks v := by rw [hW1, ← e1]; exact (HS.out.set1 (at_ + 1)).below ((Below.refl _ _).alloc (Nat.le_refl _) _)
 have hk1 : Wk q v.ownBlock w W1 := by rw [hW1]; exact (Wk.of_set 1 _).trans (Wk.of_below (row := v.ownBlock) ((Below.refl _ _).alloc (Nat.le_refl _) _)) (.inl rfl)
 have hp1 : W1.heap[w.heap.size]? = some (.cells #[.slice none 0 0, .bool false] 138 (0, 0)) := by
  rw [hW1]
  have := heap_alloc_new (w.setCell ⟨q, 1, none⟩ (.int .i64 ((at_ : Int) + 1))) (.cells #[.slice none 0 0, .bool false] 138)
  simpa [World.setCell] using this
 have hsz1 : W1.heap.size = w.heap.size + 1 := by rw [hW1]; simp [World.setCell]
 rw [← hW1]
 clear hW1
 refine (HH.out W1 v hs1).mono ?_
 rintro e W2 ⟨hk2, hres⟩
 have hpne : w.heap.size ≠ q := by omega
 have hvp : v.ownBlock ≠ some w.heap.size := fun e => by have := (HS.out.row_lt e).2; omega
 have hp2 : W2.heap[w.heap.size]? = some (.cells #[.slice none 0 0, .bool false] 138 (0, 0)) := (hk2.block _ (by omega) hpne (fun e => hvp e.symm)).trans hp1
 have x0 : W2.cell? ⟨w.heap.size, 0, none⟩ = some (.slice none 0 0) := by rw [cell_of_row _ _ 0 _ _ _ hp2]; rfl
 have x1 : W2.cell? ⟨w.heap.size, 1, none⟩ = some (.bool false) := by rw [cell_of_row _ _ 1 _ _ _ hp2]; rfl
 have g0 : W2.frozen? ⟨w.heap.size, 0, none⟩ = false := frozen_of_row _ _ 0 _ _ hp2
 have g1 : W2.frozen? ⟨w.heap.size, 1, none⟩ = false := frozen_of_row _ _ 1 _ _ hp2
 have hp2lt : w.heap.size < W2.heap.size := by have := hk2.size; omega
 have hk12 : Wk q v.ownBlock w W2 := hk1.trans hk2 (.inl rfl)
 have HK12 : Hid (Wk q v.ownBlock w W2) := hk12
 clear hk1 hk2 hk12 hp1 hp2 hs1
 cases res with
 | none =>
  obtain ⟨er, v', at3, rfl, hec, hs2, hr2⟩ := hres
  obtain ⟨t, x, rfl⟩ := hec.form
  have HS2 : Hid (WkSt q base ao cap ls W2 at3 boths ks v') := hs2
  have HEC : Hid (ErrC (.iface t x)) := hec
  clear hs2 hec
  go_wp2
  refine bodyPost_ret (v := .tuple #[.agg #[.slice none 0 0, .bool false], .iface 231 (.agg #[.string ⟨#[116, 104, 101, 32, 98, 108, 111, 99, 107, 32, 111, 102, 32, 108, 105, 110, 101]⟩, .int .i64 ((at_ : Int) + 1), .iface t x])]) (by simp [results, Tryz.results192, go_sem, x0, x1, hp2lt]) rfl ?_
  have hv' := hr2.ne (by omega) hvp
  have hk3 := z_aD HK12.out (Nat.le_refl _) (.slice none 0 0) (.bool false)
  have hs3 := HS2.out.wrote hpne hv' (by omega) (.slice none 0 0) (.bool false)
  refine ⟨hk3.trans (Wk.of_below (row := v.ownBlock) ((Below.refl _ _).alloc (Nat.le_refl _) _)) (.inl rfl), _, v', at3, rfl, ErrC.within _ _ _ HEC.out, hs3.below ((Below.refl _ _).alloc (Nat.le_refl _) _), RowTo.refl.trans hr2 (by omega)⟩
 | some r =>
  obtain ⟨g, c⟩ := r
  obtain ⟨gv, v', rfl, hs2, hr2, hg2, hsep⟩ := hres
  have HS2 : Hid (WkSt q base ao cap ls W2 at2 boths ks v') := hs2
  have HG2 : Hid (W2.ownsRow W1.heap.size 9 1 gv g.length (strCells g)) := hg2
  have HSep : Hid (∀ k, gv.ownBlock = some k → v'.ownBlock ≠ some k) := hsep
  obtain ⟨go, gc, rfl, hgc⟩ := z_aq hg2
  clear hs2 hg2 hsep
  go_wp2
  refine bodyPost_ret (v := .tuple #[.agg #[.slice go g.length gc, .bool c], .nilIface]) (by simp [results, Tryz.results192, go_sem, x0, x1, hp2lt]) rfl ?_
  have hv' := hr2.ne (by omega) hvp
  have hgne : (Value.slice go g.length gc).ownBlock ≠ some w.heap.size := fun e => by have := (HG2.out.lt _ e).1; omega
  have hk3 := z_aD HK12.out (Nat.le_refl _) (.slice go g.length gc) (.bool c)
  have hs3 := HS2.out.wrote hpne hv' (by omega) (.slice go g.length gc) (.bool c)
  have hg3 := z_a6 HG2.out hgne (.slice go g.length gc) (.bool c)
  refine ⟨hk3.trans (Wk.of_below (row := v.ownBlock) ((Below.refl _ _).alloc (Nat.le_refl _) _)) (.inl rfl), _, v', rfl, hs3.below ((Below.refl _ _).alloc (Nat.le_refl _) _), RowTo.refl.trans hr2 (by omega), ?_, HSep.out⟩
  exact z_bh (z_ay hg3 ((Below.refl _ _).alloc (Nat.le_refl _) _)) (by omega)
end
end Go.Proofs.YtlbjjbolbopfmaaGreatDoor
