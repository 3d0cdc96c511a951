import Derived.Test.YtlbjjbolbopfmaaGreatDoorJ03
import Derived.Test.YtlbjjbolbopfmaaGreatDoorJ02
import Derived.Deep.Slices
import Derived.Deep.Strs
import Derived.ProofKit
import Derived.Test.YtlbjjbolbopfmaaGreatDoorRows
import Derived.Lib.LaidTab
import Derived.Stop.LaidErr
import Derived.LaidLaws
import Derived.LaidHandle
namespace Go.Proofs.YtlbjjbolbopfmaaGreatDoor
set_option maxHeartbeats 1000000
set_option maxRecDepth 100000
set_option linter.unusedVariables false
section
open Go.RowKit
def sumS : List ByteArray → Nat
 | [] => 0
 | s :: r => s.size + sumS r
def z_fL (ss : List ByteArray) : Nat := ss.length + sumS ss
def z_eb (l : Ln) : Nat := l.2.to.size + l.2.name.size + z_fL l.2.args + l.2.undo.size
def sumL : List Ln → Nat
 | [] => 0
 | l :: r => z_eb l + sumL r
def z_eZ (ls : List Ln) : Nat := ls.length + sumL ls
theorem z_h2 : ∀ (ss : List ByteArray) (k : Nat) (h : k < ss.length), sumS (ss.take (k + 1)) = sumS (ss.take k) + ss[k].size
 | [], k, h => by simp at h
 | s :: r, 0, _ => by simp [sumS]
 | s :: r, k + 1, h => by
  have := z_h2 r k (by simpa using h)
  simp only [List.take_succ_cons, sumS, List.getElem_cons_succ]; rw [this]; omega
theorem z_iV : ∀ (ls : List Ln) (k : Nat) (h : k < ls.length), sumL (ls.take (k + 1)) = sumL (ls.take k) + z_eb ls[k]
 | [], k, h => by simp at h
 | s :: r, 0, _ => by simp [sumL]
 | s :: r, k + 1, h => by
  have := z_iV r k (by simpa using h)
  simp only [List.take_succ_cons, sumL, List.getElem_cons_succ]; rw [this]; omega
theorem z_jU : ∀ {ss : List ByteArray} {s : ByteArray}, s ∈ ss → s.size ≤ sumS ss
 | x :: r, s, h => by
  rcases List.mem_cons.1 h with rfl | h
  ·simp [sumS]
  ·have := z_jU h; simp only [sumS]; omega
theorem z_ke : ∀ {ls : List Ln} {l : Ln}, l ∈ ls → z_eb l ≤ sumL ls
 | x :: r, s, h => by
  rcases List.mem_cons.1 h with rfl | h
  ·simp [sumL]
  ·have := z_ke h; simp only [sumL]; omega
theorem z_nz {ls : List Ln} (h : z_eZ ls ≤ 1048576) : ls.length ≤ 1048576 ∧ ∀ l ∈ ls, LnSz l := by
 unfold z_eZ at h
 refine ⟨by omega, fun l hl => ?_⟩
 have h1 := z_ke hl
 unfold z_eb z_fL at h1
 exact ⟨by omega, by omega, by omega, by omega, fun s hs => by have := z_jU hs; omega⟩
def z_nu (r left : Int) (bulk : Nat) : Prop := (r = -1 ∧ left < bulk) ∨ (0 ≤ r ∧ r = left - bulk)
theorem z_cQ (ao : Option Addr) (cap : Nat) (ss : List ByteArray) (left : Int) (w : World) (h0 : 0 ≤ left) (h1 : left ≤ 1048576) (hl : ss.length ≤ 9223372036854775807) (hs : ∀ s ∈ ss, s.size ≤ 9223372036854775807) (hi : StrsAt 0 w.heap.size w ao ss) :
  Calls Tryz.prog 65 #[.slice ao ss.length cap, .int .i64 left] w fun e w' => ∃ r : Int, e = .returned (.int .i64 r) ∧ z_nu r left (z_fL ss) ∧ w' = w := by
 have HI : Hid (StrsAt 0 w.heap.size w ao ss) := hi
 have HS : Hid (∀ s ∈ ss, s.size ≤ 9223372036854775807) := hs
 clear hi hs
 by_cases hb : left < ss.length
 ·have hb2 : left - (ss.length : Int) < 0 := by omega
  go_enter Tryz.func65, Tryz.ntmps65
  go_wp2
  go_ret
  exact ⟨_, rfl, .inl ⟨rfl, by unfold z_fL; omega⟩, rfl⟩
 ·have hb2 : 0 ≤ left - (ss.length : Int) := by omega
  go_enter Tryz.func65, Tryz.ntmps65
  go_wp2
  go_loop [1, 5] (fun y i => ∃ k : Nat, k ≤ ss.length ∧ i = .int .i64 k ∧ 0 ≤ left - (ss.length : Int) - sumS (ss.take k) ∧ y = .int .i64 (left - (ss.length : Int) - sumS (ss.take k))) (fun _ i => ss.length - (intOf i).toNat)
  case atStart => exact ⟨0, Nat.zero_le _, rfl, by simpa [sumS] using hb2, by simp [sumS]⟩
  case round =>
   obtain ⟨k, hk, rfl, h3, rfl⟩ := hrel
   by_cases hlt : k < ss.length
   ·obtain ⟨b, off, rfl, hB, hc⟩ := HI.out.at k hlt
    have hsz := HS.out _ (List.getElem_mem hlt)
    have HN : Hid (sumS (ss.take (k + 1)) = sumS (ss.take k) + ss[k].size) := z_h2 ss k hlt
    obtain ⟨m, hm⟩ : ∃ m, m = sumS (ss.take k) := ⟨_, rfl⟩
    rw [← hm] at HN h3 ⊢
    have HM : Hid (m = sumS (ss.take k)) := hm
    clear hm
    by_cases hq : left - (ss.length : Int) - m - ss[k].size < 0
    ·go_wp2
     go_ret
     refine ⟨_, rfl, .inl ⟨rfl, ?_⟩, rfl⟩
     have h5 : sumS (ss.take (k + 1)) ≤ sumS ss := by
      have e : ∀ (a b : List ByteArray), sumS (a ++ b) = sumS a + sumS b := fun a b => by induction a with
       | nil => simp [sumS]
       | cons x r ih => simp only [List.cons_append, sumS, ih]; omega
      have := e (ss.take (k + 1)) (ss.drop (k + 1))
      rw [List.take_append_drop] at this; omega
     have h6 := HN.out
     unfold z_fL
     omega
    ·have hq2 : 0 ≤ left - (ss.length : Int) - m - ss[k].size := by omega
     go_wp2
     go_round
     case rel => exact ⟨k + 1, by omega, by go_num, by rw [HN.out]; omega, by rw [HN.out]; go_num⟩
     case measure => simp [intOf]; omega
   ·have e0 : ss.take k = ss := List.take_of_length_le (by omega)
    rw [e0] at h3 ⊢
    go_wp2
    go_ret
    exact ⟨_, rfl, .inr ⟨h3, by unfold z_fL; omega⟩, rfl⟩
theorem z_dn (l : Ln) (ao : Option Addr) (cap : Nat) (left : Int) (w : World) (h0 : 0 ≤ left) (h1 : left ≤ 1048576) (ht : l.2.to.size ≤ 9223372036854775807) (hn : l.2.name.size ≤ 9223372036854775807) (hu : l.2.undo.size ≤ 9223372036854775807) (hl : l.2.args.length ≤ 9223372036854775807) (hs : ∀ s ∈ l.2.args, s.size ≤ 9223372036854775807) (hi : StrsAt 0 w.heap.size w ao l.2.args) :
  Calls Tryz.prog 30 #[.agg #[.int .i64 l.1, .string l.2.to, .string l.2.name, .slice ao l.2.args.length cap, .string l.2.undo], .int .i64 left] w fun e w' => ∃ r : Int, e = .returned (.int .i64 r) ∧ z_nu r left (z_eb l) ∧ Below w.heap.size w w' := by
 obtain ⟨k, d⟩ := l
 simp only at ht hn hu hl hs hi ⊢
 have HI : Hid (StrsAt 0 w.heap.size w ao d.args) := hi
 have HS : Hid (∀ s ∈ d.args, s.size ≤ 9223372036854775807) := hs
 clear hi hs
 by_cases hb : left - (d.to.size : Int) < 0
 ·go_enter Tryz.func30, Tryz.ntmps30
  go_wp2
  go_ret
  exact ⟨_, rfl, .inl ⟨rfl, by unfold z_eb; simp only; omega⟩, (Below.refl _ _).alloc (Nat.le_refl _) _⟩
 by_cases hb2 : left - (d.to.size : Int) - d.name.size < 0
 ·go_enter Tryz.func30, Tryz.ntmps30
  go_wp2
  go_ret
  exact ⟨_, rfl, .inl ⟨rfl, by unfold z_eb; simp only; omega⟩, (Below.refl _ _).alloc (Nat.le_refl _) _⟩
 have hb3 : 0 ≤ left - (d.to.size : Int) - d.name.size := by omega
 by_cases hb4 : left - (d.to.size : Int) - d.name.size < z_fL d.args
 ·go_enter Tryz.func30, Tryz.ntmps30
  go_wp2_with (go_at_call 65; refine (z_cQ ao cap d.args _ _ hb3 (by omega) hl HS.out (HI.out.later ((Below.refl _ _).alloc (Nat.le_refl _) _))).mono ?_; rintro e w1 ⟨r, rfl, hr, rfl⟩; obtain ⟨rfl, _⟩ := hr.resolve_right (fun h => by omega))
  go_ret
  exact ⟨_, rfl, .inl ⟨rfl, by unfold z_eb; simp only; omega⟩, (Below.refl _ _).alloc (Nat.le_refl _) _⟩
 have hb5 : 0 ≤ left - (d.to.size : Int) - d.name.size - z_fL d.args := by omega
 by_cases hb6 : left - (d.to.size : Int) - d.name.size - z_fL d.args - d.undo.size < 0
 ·go_enter Tryz.func30, Tryz.ntmps30
  go_wp2_with (go_at_call 65; refine (z_cQ ao cap d.args _ _ hb3 (by omega) hl HS.out (HI.out.later ((Below.refl _ _).alloc (Nat.le_refl _) _))).mono ?_; rintro e w1 ⟨r, rfl, hr, rfl⟩; obtain ⟨_, rfl⟩ := hr.resolve_left (fun h => by omega))
  go_ret
  exact ⟨_, rfl, .inl ⟨rfl, by unfold z_eb; simp only; omega⟩, (Below.refl _ _).alloc (Nat.le_refl _) _⟩
 ·have hb7 : 0 ≤ left - (d.to.size : Int) - d.name.size - z_fL d.args - d.undo.size := by omega
  go_enter Tryz.func30, Tryz.ntmps30
  go_wp2_with (go_at_call 65; refine (z_cQ ao cap d.args _ _ hb3 (by omega) hl HS.out (HI.out.later ((Below.refl _ _).alloc (Nat.le_refl _) _))).mono ?_; rintro e w1 ⟨r, rfl, hr, rfl⟩; obtain ⟨_, rfl⟩ := hr.resolve_left (fun h => by omega))
  go_ret
  exact ⟨_, rfl, .inr ⟨hb7, by unfold z_eb; simp only; omega⟩, (Below.refl _ _).alloc (Nat.le_refl _) _⟩
theorem z_fa (ao : Option Addr) (cap : Nat) (ls : List Ln) (left : Int) (w : World) (h0 : 0 ≤ left) (h1 : left ≤ 1048576) (hl : ls.length ≤ 9223372036854775807) (hz : ∀ l ∈ ls, LnMx l) (hi : LinesAt w.heap.size w ao ls) :
  Calls Tryz.prog 9 #[.slice ao ls.length cap, .int .i64 left] w fun e w' => ∃ r : Int, e = .returned (.int .i64 r) ∧ z_nu r left (z_eZ ls) ∧ Below w.heap.size w w' := by
 have HI : Hid (LinesAt w.heap.size w ao ls) := hi
 have HZ : Hid (∀ l ∈ ls, LnMx l) := hz
 clear hi hz
 by_cases hb : left < ls.length
 ·have hb2 : left - (ls.length : Int) < 0 := by omega
  go_enter Tryz.func9, Tryz.ntmps9
  go_wp2
  go_ret
  exact ⟨_, rfl, .inl ⟨rfl, by unfold z_eZ; omega⟩, Below.refl _ _⟩
 ·have hb2 : 0 ≤ left - (ls.length : Int) := by omega
  go_enter Tryz.func9, Tryz.ntmps9
  go_wp2
  go_loopw [1, 5] (fun y i wr => ∃ k : Nat, k ≤ ls.length ∧ i = .int .i64 k ∧ 0 ≤ left - (ls.length : Int) - sumL (ls.take k) ∧ y = .int .i64 (left - (ls.length : Int) - sumL (ls.take k)) ∧ Hid (Below w.heap.size w wr)) (fun _ i _ => ls.length - (intOf i).toNat)
  case atStart => exact ⟨0, Nat.zero_le _, rfl, by simpa [sumL] using hb2, by simp [sumL], Below.refl _ _⟩
  case round =>
   obtain ⟨k, hk, rfl, h3, rfl, HB⟩ := hrel
   by_cases hlt : k < ls.length
   ·obtain ⟨b, off, rfl, hB, ao2, cap2, hc2, q0, q1, q2, q3, q4, hA⟩ := HI.out k hlt
    have c0 := (HB.out.cell (p := ⟨b, off + k * 5, none⟩) hB).trans q0
    have c1 := (HB.out.cell (p := ⟨b, off + k * 5 + 1, none⟩) hB).trans q1
    have c2 := (HB.out.cell (p := ⟨b, off + k * 5 + 2, none⟩) hB).trans q2
    have c3 := (HB.out.cell (p := ⟨b, off + k * 5 + 3, none⟩) hB).trans q3
    have c4 := (HB.out.cell (p := ⟨b, off + k * 5 + 4, none⟩) hB).trans q4
    have HAr : Hid (StrsAt 0 w.heap.size w ao2 ls[k].2.args) := hA
    obtain ⟨m1, m2, m3, m4, m5⟩ := HZ.out _ (List.getElem_mem hlt)
    have HM5 : Hid (∀ s ∈ ls[k].2.args, s.size ≤ 9223372036854775807) := m5
    have HN : Hid (sumL (ls.take (k + 1)) = sumL (ls.take k) + z_eb ls[k]) := z_iV ls k hlt
    have hgs := HB.out.size
    clear q0 q1 q2 q3 q4 hA m5
    obtain ⟨m, hm⟩ : ∃ m, m = sumL (ls.take k) := ⟨_, rfl⟩
    rw [← hm] at HN h3 ⊢
    clear hm
    have h6 := HN.out
    by_cases hq : left - (ls.length : Int) - m < z_eb ls[k]
    ·go_wp2_with (go_at_call 30; refine (z_dn ls[k] ao2 cap2 _ _ h3 (by omega) m2 m3 m4 m1 HM5.out (HAr.out.later HB.out)).mono ?_; rintro e w1 ⟨r, rfl, hr, hb1⟩; obtain ⟨rfl, _⟩ := hr.resolve_right (fun h => by omega); have HB1 : Hid (Below w.heap.size w w1) := HB.out.trans (hb1.mono hgs); clear hb1)
     go_ret
     refine ⟨_, rfl, .inl ⟨rfl, ?_⟩, HB1.out⟩
     have h5 : sumL (ls.take (k + 1)) ≤ sumL ls := by
      have e : ∀ (a b : List Ln), sumL (a ++ b) = sumL a + sumL b := fun a b => by induction a with
       | nil => simp [sumL]
       | cons x r ih => simp only [List.cons_append, sumL, ih]; omega
      have := e (ls.take (k + 1)) (ls.drop (k + 1))
      rw [List.take_append_drop] at this; omega
     unfold z_eZ
     omega
    ·have hq2 : 0 ≤ left - (ls.length : Int) - m - z_eb ls[k] := by omega
     go_wp2_with (go_at_call 30; refine (z_dn ls[k] ao2 cap2 _ _ h3 (by omega) m2 m3 m4 m1 HM5.out (HAr.out.later HB.out)).mono ?_; rintro e w1 ⟨r, rfl, hr, hb1⟩; obtain ⟨_, rfl⟩ := hr.resolve_left (fun h => by omega); have HB1 : Hid (Below w.heap.size w w1) := HB.out.trans (hb1.mono hgs); clear hb1)
     go_roundw
     case rel => exact ⟨k + 1, by omega, by go_num, by rw [HN.out]; omega, by rw [HN.out]; go_num, HB1.out⟩
     case measure => simp [intOf]; omega
   ·have e0 : ls.take k = ls := List.take_of_length_le (by omega)
    rw [e0] at h3 ⊢
    go_wp2
    go_ret
    exact ⟨_, rfl, .inr ⟨h3, by unfold z_eZ; omega⟩, HB.out⟩
end
section
open Go.RowKit Go.ChangeShapes Go.WideShapes Go.Deep
section
variable {H : Type} {enc : TypeId × Value → H} {P : Program} {w : World} {base : Nat} {spare : Nat → Bool} {held : Bool}
theorem z_iW {t : TypeId} {f0 f1 f2 f3 f4 : Field} {fuel : Nat} {cs : List Value} {x : DataW H × List MemPlace} (ht : P.underlying t = some (.struct #[f0, f1, f2, f3, f4])) (h : DataW.trod enc P w base spare held fuel t cs = some x) :
  ∃ y0 y1 y2 y3 y4 n, cs.length = P.cellsOf t ∧ DataW.trod enc P w base spare held n f0.type ((cs.drop f0.offset).take (P.cellsOf f0.type)) = some y0 ∧
   DataW.trod enc P w base spare held n f1.type ((cs.drop f1.offset).take (P.cellsOf f1.type)) = some y1 ∧ DataW.trod enc P w base spare held n f2.type ((cs.drop f2.offset).take (P.cellsOf f2.type)) = some y2 ∧
   DataW.trod enc P w base spare held n f3.type ((cs.drop f3.offset).take (P.cellsOf f3.type)) = some y3 ∧ DataW.trod enc P w base spare held n f4.type ((cs.drop f4.offset).take (P.cellsOf f4.type)) = some y4 := by
 obtain ⟨xs, n, _, rfl, hl, hlen, hf⟩ := DataW.trod_struct ht h
 match xs, hlen with
 | [y0, y1, y2, y3, y4], _ => exact ⟨y0, y1, y2, y3, y4, n, hl, by simpa using hf 0 f0 rfl, by simpa using hf 1 f1 rfl, by simpa using hf 2 f2 rfl, by simpa using hf 3 f3 rfl, by simpa using hf 4 f4 rfl⟩
theorem z_nm {α : Type} {l : List α} (h : l.length = 5) : ∃ c0 c1 c2 c3 c4, l = [c0, c1, c2, c3, c4] := by
 match l, h with
 | [c0, c1, c2, c3, c4], _ => exact ⟨c0, c1, c2, c3, c4, rfl⟩
theorem z_g0 (b off k : Nat) : (⟨b, off, none⟩ : Addr).add k = ⟨b, off + k, none⟩ := by
 unfold Addr.add
 split
 ·rename_i h; subst h; rfl
 ·rfl
theorem z_lP {W : World} {b o : Nat} {v : Value} (h : W.cell? ⟨b, o, none⟩ = some v) : b < W.heap.size := by
 apply Classical.byContradiction
 intro hn
 have : W.heap[b]? = none := by simp; omega
 simp [World.cell?, this] at h
end
theorem z_jF : Tryz.prog.cellsOf 57 = 5 := by kernel_rfl
theorem z_n7 : Tryz.prog.cellsOf 3 = 1 := by kernel_rfl
theorem z_mW : Tryz.prog.cellsOf 9 = 1 := by kernel_rfl
theorem z_na : Tryz.prog.cellsOf 45 = 1 := by kernel_rfl
section
variable {H : Type} {enc : TypeId × Value → H} {W : World} {base : Nat} {spare : Nat → Bool} {held : Bool}
theorem z_lo {n : Nat} {c : Value} {y : DataW H × List MemPlace} (h : DataW.trod enc Tryz.prog W base spare held n 45 [c] = some y) :
  ∃ ao cap ss, c = .slice ao ss.length cap ∧ ss.length ≤ cap ∧ ss.length ≤ 9223372036854775807 ∧ (∀ s ∈ ss, s.size ≤ 9223372036854775807) ∧ StrsAt 0 W.heap.size W ao ss := by
 rcases open_strs Tryz.underlying45 Tryz.underlying9 z_mW h with ⟨e, _⟩ | ⟨a, len, cap, m, Sx, e, _, hl, hm, hmm, _, hx⟩
 ·simp only [List.cons.injEq, and_true] at e
  subst e
  exact ⟨none, 0, [], rfl, Nat.le_refl _, Nat.zero_le _, fun s hs => by simp at hs, fun k hk => by simp at hk⟩
 ·simp only [List.cons.injEq, and_true] at e
  subst e
  have hlm : len ≤ m := by rw [hmm]; split <;> omega
  have e1 : ((List.range len).map Sx).length = len := by simp
  unfold maxLen at hm
  refine ⟨some a, cap, (List.range len).map Sx, by rw [e1], by rw [e1]; exact hl, by rw [e1]; omega, ?_, fun k hk => ?_⟩
  ·intro s hs
   obtain ⟨i, hi, rfl⟩ := List.mem_map.1 hs
   have := (hx i (by have := List.mem_range.1 hi; omega)).2
   unfold maxLen at this
   omega
  ·rw [e1] at hk
   have hc0 := (hx 0 (by omega)).1
   have hck := (hx k (by omega)).1
   obtain ⟨b, off, sp⟩ := a
   have hsp : sp = none := by simpa [Addr.add] using World.cell?_spot hc0
   subst hsp
   rw [z_g0] at hck
   refine ⟨b, off, rfl, ⟨Nat.zero_le _, z_lP hck⟩, ?_⟩
   rw [hck]
   simp [List.getD, hk]
theorem z_mk {n b o : Nat} {cs : List Value} {x : DataW H × List MemPlace} (hc : ∀ k (hk : k < cs.length), W.cell? ⟨b, o + k, none⟩ = some cs[k]) (h : DataW.trod enc Tryz.prog W base spare held n 57 cs = some x) :
  ∃ l : Ln, LineAt W.heap.size W b o l ∧ LnMx l := by
 obtain ⟨y0, y1, y2, y3, y4, m, hl, h0, h1, h2, h3, h4⟩ := z_iW Tryz.underlying57 h
 rw [z_jF] at hl
 obtain ⟨c0, c1, c2, c3, c4, rfl⟩ := z_nm hl
 simp only [z_n7, z_mW, z_na, List.drop_zero, List.drop_succ_cons, List.take_succ_cons, List.take_zero] at h0 h1 h2 h3 h4
 obtain ⟨id, e0, _, wid⟩ := DataW.trod_int Tryz.underlying3 h0
 obtain ⟨tt, e1, _, hto⟩ := DataW.trod_string Tryz.underlying9 h1
 obtain ⟨name, e2, _, hname⟩ := DataW.trod_string Tryz.underlying9 h2
 obtain ⟨ao, cap, ss, e3, hcap, hlen, hsz, hss⟩ := z_lo h3
 obtain ⟨undo, e4, _, hundo⟩ := DataW.trod_string Tryz.underlying9 h4
 simp only [List.cons.injEq, and_true] at e0 e1 e2 e4
 subst e0 e1 e2 e3 e4
 unfold maxLen at hto hname hundo
 have k0 := hc 0 (by simp)
 have k1 := hc 1 (by simp)
 have k2 := hc 2 (by simp)
 have k3 := hc 3 (by simp)
 have k4 := hc 4 (by simp)
 exact ⟨(id, ⟨tt, name, ss, undo⟩), ⟨ao, cap, hcap, k0, k1, k2, k3, k4, hss⟩, ⟨hlen, by show tt.size ≤ _; omega, by show name.size ≤ _; omega, by show undo.size ≤ _; omega, hsz⟩⟩
theorem z_gg {r : Reach} {b0 : Nat} {v : Value} {d : DataW H} {p : List MemPlace} (hv : Value.okWide Tryz.prog W r b0 22 v) (h : DataW.Trod enc Tryz.prog W base spare held 22 v d p) :
  ∃ ao cap ls, v = .slice ao ls.length cap ∧ ls.length ≤ cap ∧ ls.length ≤ 9223372036854775807 ∧ (∀ l ∈ ls, LnMx l) ∧ LinesAt W.heap.size W ao ls := by
 obtain ⟨va, vl, vc, rfl⟩ := okWide_slice Tryz.underlying22 hv
 obtain ⟨fuel, h⟩ := h
 rcases open_slice Tryz.underlying22 h with ⟨e, _⟩ | ⟨a, len, cap, m, n, D, Pl, e, _, hl, hm, hmm, _, hx⟩
 ·have e' : Value.slice va vl vc = .slice none 0 0 := (List.cons.inj e).1
  rw [e']
  exact ⟨none, 0, [], rfl, Nat.le_refl _, Nat.zero_le _, fun l hl => by simp at hl, LinesAt.nil⟩
 ·have e' : Value.slice va vl vc = .slice (some a) len cap := (List.cons.inj e).1
  rw [e']
  have hlm : len ≤ m := by rw [hmm]; split <;> omega
  have each : ∀ i, i < len → ∃ l : Ln, (∃ b off, some a = some (⟨b, off, none⟩ : Addr) ∧ b < W.heap.size ∧ LineAt W.heap.size W b (off + i * 5) l) ∧ LnMx l := by
   intro i hi
   obtain ⟨cs', h1, h2⟩ := hx i (by omega)
   rw [z_jF] at h1
   obtain ⟨_, hlen, hcell⟩ := World.cells?_some h1
   obtain ⟨c0, c1, c2, c3, c4, rfl⟩ := z_nm hlen
   obtain ⟨cs0, g1, _⟩ := hx 0 (by omega)
   rw [z_jF] at g1
   obtain ⟨_, hlen0, hcell0⟩ := World.cells?_some g1
   obtain ⟨z0, z1, z2, z3, z4, rfl⟩ := z_nm hlen0
   have q0 : W.cell? ((a.add (0 * 5)).add 0) = some z0 := hcell0 0 (by decide)
   obtain ⟨b, off, sp⟩ := a
   have hsp : sp = none := by
    have := World.cell?_spot q0
    simpa [Addr.add] using this
   subst hsp
   have hc : ∀ k (hk : k < [c0, c1, c2, c3, c4].length), W.cell? ⟨b, off + i * 5 + k, none⟩ = some [c0, c1, c2, c3, c4][k] := by
    intro k hk
    have := hcell k (by simpa using hk)
    rw [z_g0, z_g0] at this
    rw [this]
    simp
   obtain ⟨l, hl1, hl2⟩ := z_mk hc h2
   exact ⟨l, ⟨b, off, rfl, z_lP (hc 0 (by simp)), hl1⟩, hl2⟩
  haveI : Inhabited Ln := ⟨(0, ⟨eS, eS, [], eS⟩)⟩
  obtain ⟨f, hf⟩ := choose_lt each
  have e1 : ((List.range len).map f).length = len := by simp
  unfold maxLen at hm
  refine ⟨some a, cap, (List.range len).map f, by rw [e1], by rw [e1]; exact hl, by rw [e1]; omega, ?_, ?_⟩
  ·intro l hl
   obtain ⟨i, hi, rfl⟩ := List.mem_map.1 hl
   exact (hf i (List.mem_range.1 hi)).2
  ·intro k hk
   rw [e1] at hk
   obtain ⟨b, off, e2, hb, hl⟩ := (hf k hk).1
   refine ⟨b, off, e2, hb, ?_⟩
   rw [List.getElem_map, List.getElem_range]
   exact hl
end
end
section
open Go.RowKit
theorem z_eL {P : Program} {W : World} {n m : String} {g : Nat} (hn : P.globalNamed n = some g) (hm : P.globalNamed m = some g) : W.var? P n = W.var? P m := by
 unfold World.var?; rw [hn, hm]
theorem gPow : Tryz.prog.globalNamed "internal/strconv.uint64pow10" = some 1 := by kernel_rfl
theorem z_od : (Tryz.prog.globals[1]?).map (·.type) = some 218 := by kernel_rfl
theorem gErr : Tryz.prog.globalNamed "errors.errorType" = some 0 := by kernel_rfl
theorem gFar : Tryz.prog.globalNamed "strconv.ErrRange" = some 6 := by kernel_rfl
theorem z_ob : (Tryz.prog.globals[6]?).map (·.type) = some 76 := by kernel_rfl
theorem gBad : Tryz.prog.globalNamed "strconv.ErrSyntax" = some 5 := by kernel_rfl
theorem z_oa : (Tryz.prog.globals[5]?).map (·.type) = some 76 := by kernel_rfl
theorem z_nv : Tryz.prog.cellsOf 202 = 1 := by kernel_rfl
theorem z_mQ : Tryz.prog.cellsOf 218 = 20 := by kernel_rfl
theorem z_li : Tryz.prog.cellsOf 252 = 1 := by kernel_rfl
theorem z_jY : Tryz.prog.cellsOf 9 = 1 := by kernel_rfl
theorem z_m7 : "*" ++ "errors.errorString" = "*errors.errorString" := by decide
theorem z_n4 (u : TypeId) (h : Tryz.prog.typeName? 3 u = some "*errors.errorString") : u = 250 :=
 typeName_ptr_named (nm := "errors.errorString") (by rw [z_m7]; kernel_rfl) (by kernel_rfl) (by decide) u (by rw [z_m7]; exact h)
theorem rtT : (Tryz.prog.cutTypes.find? (·.1 == "internal/reflectlite.rtype")).map (·.2) = some 185 := by kernel_rfl
theorem z_n5 : ((List.range 279).filter fun t => Tryz.prog.rowNamed t [101, 114, 114, 111, 114]) = [76] := by kernel_rfl
theorem z_n2 : Tryz.prog.types.size = 279 := by kernel_rfl
theorem z_fB {W : World} (h : laidMetH Tryz.prog Rows.fnExactFlowMakeRow.laid W) : Env W := by
 have h' : laidMet Tryz.prog [("math/bits.deBruijn32tab", Rows.laid_math_bits_deBruijn32tab), ("math/bits.deBruijn64tab", Rows.laid_math_bits_deBruijn64tab), ("internal/strconv.uint64pow10", Rows.laid_internal_strconv_uint64pow10), ("strconv.ErrRange", Rows.laid_strconv_ErrRange), ("strconv.ErrSyntax", Rows.laid_strconv_ErrSyntax)] W ∧ handlesMet Tryz.prog [("errors.errorType", Rows.laid_errors_errorType)] W := h
 obtain ⟨hl, hh⟩ := h'
 have hp := hl.tail.tail
 have hr := hp.tail
 have hb := hr.tail
 have tab : Lib.TabIs Tryz.prog W "internal/strconv.uint64pow10" .u64 Lib.pow10Tab := Lib.tabIs_of_head gPow z_od Tryz.underlying218 Tryz.underlying202 z_nv z_mQ hp
 obtain ⟨a1, _, hv1, _⟩ := laid_sentinel hr gFar z_ob Tryz.underlying76 z_n4 Tryz.underlying250 Tryz.underlying252 rfl rfl Tryz.underlying9 z_li z_jY
 obtain ⟨a2, _, hv2, _⟩ := laid_sentinel hb gBad z_oa Tryz.underlying76 z_n4 Tryz.underlying250 Tryz.underlying252 rfl rfl Tryz.underlying9 z_li z_jY
 obtain ⟨name, u, ty, e1, e2, e3, e4, e5⟩ := hh _ (List.mem_singleton.2 rfl)
 have en : name = [101, 114, 114, 111, 114] := (Option.some.inj e1).symm
 subst en
 obtain rfl := Option.some.inj (rtT.symm.trans e2)
 have hm : ty ∈ (List.range 279).filter fun t => Tryz.prog.rowNamed t [101, 114, 114, 111, 114] := List.mem_filter.2 ⟨List.mem_range.2 (by rw [← z_n2]; exact e3), e4⟩
 rw [z_n5] at hm
 obtain rfl := List.mem_singleton.1 hm
 have hty : typeHandle Tryz.prog 76 = .pointer (some ⟨7, 76, none⟩) := by kernel_rfl
 rw [hty] at e5
 refine ⟨fun n hn => ?_, ⟨_, _, fun n hn => (z_eL hn gBad).trans hv2⟩, ⟨_, _, fun n hn => (z_eL hn gFar).trans hv1⟩, fun n hn => (z_eL hn gErr).trans e5⟩
 unfold Lib.TabIs at tab ⊢
 exact (z_eL hn gPow).trans tab
end
end Go.Proofs.YtlbjjbolbopfmaaGreatDoor
