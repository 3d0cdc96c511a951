import Derived.Test.YtlbjjbolbopfmaaGreatDoorH10
import Derived.Test.YtlbjjbolbopfmaaGreatDoorH01
import Derived.Test.YtlbjjbolbopfmaaGreatDoorH18
import Derived.BigQuiet
import Derived.Deep.QuietTactic
import Derived.Test.YtlbjjbolbopfmaaGreatDoorH20
import Derived.Laws.IdiomStrings
import Derived.Deep.RegionWith
namespace Go.Proofs.YtlbjjbolbopfmaaGreatDoor
set_option maxHeartbeats 2000000
set_option maxRecDepth 1000000
set_option linter.unusedVariables false
section
open Go.RowKit
def sumS : List ByteArray → Nat
 | [] => 0
 | s :: r => s.size + sumS r
def bulkS (ss : List ByteArray) : Nat := ss.length + sumS ss
def bulkL (l : Ln) : Nat := l.2.to.size + l.2.name.size + bulkS l.2.args + l.2.undo.size
def sumL : List Ln → Nat
 | [] => 0
 | l :: r => bulkL l + sumL r
def bulkLs (ls : List Ln) : Nat := ls.length + sumL ls
theorem sumS_snoc : ∀ (ss : List ByteArray) (k : Nat) (h : k < ss.length), sumS (ss.take (k + 1)) = sumS (ss.take k) + ss[k].size
 | [], k, h => by simp at h
 | s :: r, 0, _ => by simp [sumS]
 | s :: r, k + 1, h => by
  have := sumS_snoc r k (by simpa using h)
  simp only [List.take_succ_cons, sumS, List.getElem_cons_succ]; rw [this]; omega
theorem sumL_snoc : ∀ (ls : List Ln) (k : Nat) (h : k < ls.length), sumL (ls.take (k + 1)) = sumL (ls.take k) + bulkL ls[k]
 | [], k, h => by simp at h
 | s :: r, 0, _ => by simp [sumL]
 | s :: r, k + 1, h => by
  have := sumL_snoc r k (by simpa using h)
  simp only [List.take_succ_cons, sumL, List.getElem_cons_succ]; rw [this]; omega
theorem sumS_mem : ∀ {ss : List ByteArray} {s : ByteArray}, s ∈ ss → s.size ≤ sumS ss
 | x :: r, s, h => by
  rcases List.mem_cons.1 h with rfl | h
  ·simp [sumS]
  ·have := sumS_mem h; simp only [sumS]; omega
theorem sumL_mem : ∀ {ls : List Ln} {l : Ln}, l ∈ ls → bulkL l ≤ sumL ls
 | x :: r, s, h => by
  rcases List.mem_cons.1 h with rfl | h
  ·simp [sumL]
  ·have := sumL_mem h; simp only [sumL]; omega
theorem lnSz_of {ls : List Ln} (h : bulkLs ls ≤ 1048576) : ls.length ≤ 1048576 ∧ ∀ l ∈ ls, LnSz l := by
 unfold bulkLs at h
 refine ⟨by omega, fun l hl => ?_⟩
 have h1 := sumL_mem hl
 unfold bulkL bulkS at h1
 exact ⟨by omega, by omega, by omega, by omega, fun s hs => by have := sumS_mem hs; omega⟩
def leftE (r left : Int) (bulk : Nat) : Prop := (r = -1 ∧ left < bulk) ∨ (0 ≤ r ∧ r = left - bulk)
theorem szStringS_any (ao : Option Addr) (cap : Nat) (ss : List ByteArray) (left : Int) (w : World) (h0 : 0 ≤ left) (h1 : left ≤ 1048576) (hl : ss.length ≤ 9223372036854775807) (hs : ∀ s ∈ ss, s.size ≤ 9223372036854775807) (hi : StrsAt 0 w.heap.size w ao ss) :
  Calls Tryz.prog 65 #[.slice ao ss.length cap, .int .i64 left] w fun e w' => ∃ r : Int, e = .returned (.int .i64 r) ∧ leftE r left (bulkS ss) ∧ w' = w := by
 have HI : Hid (StrsAt 0 w.heap.size w ao ss) := hi
 have HS : Hid (∀ s ∈ ss, s.size ≤ 9223372036854775807) := hs
 clear hi hs
 by_cases hb : left < ss.length
 ·have hb2 : left - (ss.length : Int) < 0 := by omega
  go_enter Tryz.func65, Tryz.ntmps65
  go_wp2
  go_ret
  exact ⟨_, rfl, .inl ⟨rfl, by unfold bulkS; omega⟩, rfl⟩
 ·have hb2 : 0 ≤ left - (ss.length : Int) := by omega
  go_enter Tryz.func65, Tryz.ntmps65
  go_wp2
  go_loop [1, 5] (fun y i => ∃ k : Nat, k ≤ ss.length ∧ i = .int .i64 k ∧ 0 ≤ left - (ss.length : Int) - sumS (ss.take k) ∧ y = .int .i64 (left - (ss.length : Int) - sumS (ss.take k))) (fun _ i => ss.length - (intOf i).toNat)
  case atStart => exact ⟨0, Nat.zero_le _, rfl, by simpa [sumS] using hb2, by simp [sumS]⟩
  case round =>
   obtain ⟨k, hk, rfl, h3, rfl⟩ := hrel
   by_cases hlt : k < ss.length
   ·obtain ⟨b, off, rfl, hB, hc⟩ := HI.out.at k hlt
    have hsz := HS.out _ (List.getElem_mem hlt)
    have HN : Hid (sumS (ss.take (k + 1)) = sumS (ss.take k) + ss[k].size) := sumS_snoc ss k hlt
    obtain ⟨m, hm⟩ : ∃ m, m = sumS (ss.take k) := ⟨_, rfl⟩
    rw [← hm] at HN h3 ⊢
    have HM : Hid (m = sumS (ss.take k)) := hm
    clear hm
    by_cases hq : left - (ss.length : Int) - m - ss[k].size < 0
    ·go_wp2
     go_ret
     refine ⟨_, rfl, .inl ⟨rfl, ?_⟩, rfl⟩
     have h5 : sumS (ss.take (k + 1)) ≤ sumS ss := by
      have e : ∀ (a b : List ByteArray), sumS (a ++ b) = sumS a + sumS b := fun a b => by induction a with
       | nil => simp [sumS]
       | cons x r ih => simp only [List.cons_append, sumS, ih]; omega
      have := e (ss.take (k + 1)) (ss.drop (k + 1))
      rw [List.take_append_drop] at this; omega
     have h6 := HN.out
     unfold bulkS
     omega
    ·have hq2 : 0 ≤ left - (ss.length : Int) - m - ss[k].size := by omega
     go_wp2
     go_round
     case rel => exact ⟨k + 1, by omega, by go_num, by rw [HN.out]; omega, by rw [HN.out]; go_num⟩
     case measure => simp [intOf]; omega
   ·have e0 : ss.take k = ss := List.take_of_length_le (by omega)
    rw [e0] at h3 ⊢
    go_wp2
    go_ret
    exact ⟨_, rfl, .inr ⟨h3, by unfold bulkS; omega⟩, rfl⟩
theorem szFlowLine_any (l : Ln) (ao : Option Addr) (cap : Nat) (left : Int) (w : World) (h0 : 0 ≤ left) (h1 : left ≤ 1048576) (ht : l.2.to.size ≤ 9223372036854775807) (hn : l.2.name.size ≤ 9223372036854775807) (hu : l.2.undo.size ≤ 9223372036854775807) (hl : l.2.args.length ≤ 9223372036854775807) (hs : ∀ s ∈ l.2.args, s.size ≤ 9223372036854775807) (hi : StrsAt 0 w.heap.size w ao l.2.args) :
  Calls Tryz.prog 30 #[.agg #[.int .i64 l.1, .string l.2.to, .string l.2.name, .slice ao l.2.args.length cap, .string l.2.undo], .int .i64 left] w fun e w' => ∃ r : Int, e = .returned (.int .i64 r) ∧ leftE r left (bulkL l) ∧ Below w.heap.size w w' := by
 obtain ⟨k, d⟩ := l
 simp only at ht hn hu hl hs hi ⊢
 have HI : Hid (StrsAt 0 w.heap.size w ao d.args) := hi
 have HS : Hid (∀ s ∈ d.args, s.size ≤ 9223372036854775807) := hs
 clear hi hs
 by_cases hb : left - (d.to.size : Int) < 0
 ·go_enter Tryz.func30, Tryz.ntmps30
  go_wp2
  go_ret
  exact ⟨_, rfl, .inl ⟨rfl, by unfold bulkL; simp only; omega⟩, (Below.refl _ _).alloc (Nat.le_refl _) _⟩
 by_cases hb2 : left - (d.to.size : Int) - d.name.size < 0
 ·go_enter Tryz.func30, Tryz.ntmps30
  go_wp2
  go_ret
  exact ⟨_, rfl, .inl ⟨rfl, by unfold bulkL; simp only; omega⟩, (Below.refl _ _).alloc (Nat.le_refl _) _⟩
 have hb3 : 0 ≤ left - (d.to.size : Int) - d.name.size := by omega
 by_cases hb4 : left - (d.to.size : Int) - d.name.size < bulkS d.args
 ·go_enter Tryz.func30, Tryz.ntmps30
  go_wp2_with (go_at_call 65; refine (szStringS_any ao cap d.args _ _ hb3 (by omega) hl HS.out (HI.out.later ((Below.refl _ _).alloc (Nat.le_refl _) _))).mono ?_; rintro e w1 ⟨r, rfl, hr, rfl⟩; obtain ⟨rfl, _⟩ := hr.resolve_right (fun h => by omega))
  go_ret
  exact ⟨_, rfl, .inl ⟨rfl, by unfold bulkL; simp only; omega⟩, (Below.refl _ _).alloc (Nat.le_refl _) _⟩
 have hb5 : 0 ≤ left - (d.to.size : Int) - d.name.size - bulkS d.args := by omega
 by_cases hb6 : left - (d.to.size : Int) - d.name.size - bulkS d.args - d.undo.size < 0
 ·go_enter Tryz.func30, Tryz.ntmps30
  go_wp2_with (go_at_call 65; refine (szStringS_any ao cap d.args _ _ hb3 (by omega) hl HS.out (HI.out.later ((Below.refl _ _).alloc (Nat.le_refl _) _))).mono ?_; rintro e w1 ⟨r, rfl, hr, rfl⟩; obtain ⟨_, rfl⟩ := hr.resolve_left (fun h => by omega))
  go_ret
  exact ⟨_, rfl, .inl ⟨rfl, by unfold bulkL; simp only; omega⟩, (Below.refl _ _).alloc (Nat.le_refl _) _⟩
 ·have hb7 : 0 ≤ left - (d.to.size : Int) - d.name.size - bulkS d.args - d.undo.size := by omega
  go_enter Tryz.func30, Tryz.ntmps30
  go_wp2_with (go_at_call 65; refine (szStringS_any ao cap d.args _ _ hb3 (by omega) hl HS.out (HI.out.later ((Below.refl _ _).alloc (Nat.le_refl _) _))).mono ?_; rintro e w1 ⟨r, rfl, hr, rfl⟩; obtain ⟨_, rfl⟩ := hr.resolve_left (fun h => by omega))
  go_ret
  exact ⟨_, rfl, .inr ⟨hb7, by unfold bulkL; simp only; omega⟩, (Below.refl _ _).alloc (Nat.le_refl _) _⟩
theorem szFlowLineS_any (ao : Option Addr) (cap : Nat) (ls : List Ln) (left : Int) (w : World) (h0 : 0 ≤ left) (h1 : left ≤ 1048576) (hl : ls.length ≤ 9223372036854775807) (hz : ∀ l ∈ ls, LnMx l) (hi : LinesAt w.heap.size w ao ls) :
  Calls Tryz.prog 9 #[.slice ao ls.length cap, .int .i64 left] w fun e w' => ∃ r : Int, e = .returned (.int .i64 r) ∧ leftE r left (bulkLs ls) ∧ Below w.heap.size w w' := by
 have HI : Hid (LinesAt w.heap.size w ao ls) := hi
 have HZ : Hid (∀ l ∈ ls, LnMx l) := hz
 clear hi hz
 by_cases hb : left < ls.length
 ·have hb2 : left - (ls.length : Int) < 0 := by omega
  go_enter Tryz.func9, Tryz.ntmps9
  go_wp2
  go_ret
  exact ⟨_, rfl, .inl ⟨rfl, by unfold bulkLs; omega⟩, Below.refl _ _⟩
 ·have hb2 : 0 ≤ left - (ls.length : Int) := by omega
  go_enter Tryz.func9, Tryz.ntmps9
  go_wp2
  go_loopw [1, 5] (fun y i wr => ∃ k : Nat, k ≤ ls.length ∧ i = .int .i64 k ∧ 0 ≤ left - (ls.length : Int) - sumL (ls.take k) ∧ y = .int .i64 (left - (ls.length : Int) - sumL (ls.take k)) ∧ Hid (Below w.heap.size w wr)) (fun _ i _ => ls.length - (intOf i).toNat)
  case atStart => exact ⟨0, Nat.zero_le _, rfl, by simpa [sumL] using hb2, by simp [sumL], Below.refl _ _⟩
  case round =>
   obtain ⟨k, hk, rfl, h3, rfl, HB⟩ := hrel
   by_cases hlt : k < ls.length
   ·obtain ⟨b, off, rfl, hB, ao2, cap2, hc2, q0, q1, q2, q3, q4, hA⟩ := HI.out k hlt
    have c0 := (HB.out.cell (p := ⟨b, off + k * 5, none⟩) hB).trans q0
    have c1 := (HB.out.cell (p := ⟨b, off + k * 5 + 1, none⟩) hB).trans q1
    have c2 := (HB.out.cell (p := ⟨b, off + k * 5 + 2, none⟩) hB).trans q2
    have c3 := (HB.out.cell (p := ⟨b, off + k * 5 + 3, none⟩) hB).trans q3
    have c4 := (HB.out.cell (p := ⟨b, off + k * 5 + 4, none⟩) hB).trans q4
    have HAr : Hid (StrsAt 0 w.heap.size w ao2 ls[k].2.args) := hA
    obtain ⟨m1, m2, m3, m4, m5⟩ := HZ.out _ (List.getElem_mem hlt)
    have HM5 : Hid (∀ s ∈ ls[k].2.args, s.size ≤ 9223372036854775807) := m5
    have HN : Hid (sumL (ls.take (k + 1)) = sumL (ls.take k) + bulkL ls[k]) := sumL_snoc ls k hlt
    have hgs := HB.out.size
    clear q0 q1 q2 q3 q4 hA m5
    obtain ⟨m, hm⟩ : ∃ m, m = sumL (ls.take k) := ⟨_, rfl⟩
    rw [← hm] at HN h3 ⊢
    clear hm
    have h6 := HN.out
    by_cases hq : left - (ls.length : Int) - m < bulkL ls[k]
    ·go_wp2_with (go_at_call 30; refine (szFlowLine_any ls[k] ao2 cap2 _ _ h3 (by omega) m2 m3 m4 m1 HM5.out (HAr.out.later HB.out)).mono ?_; rintro e w1 ⟨r, rfl, hr, hb1⟩; obtain ⟨rfl, _⟩ := hr.resolve_right (fun h => by omega); have HB1 : Hid (Below w.heap.size w w1) := HB.out.trans (hb1.mono hgs); clear hb1)
     go_ret
     refine ⟨_, rfl, .inl ⟨rfl, ?_⟩, HB1.out⟩
     have h5 : sumL (ls.take (k + 1)) ≤ sumL ls := by
      have e : ∀ (a b : List Ln), sumL (a ++ b) = sumL a + sumL b := fun a b => by induction a with
       | nil => simp [sumL]
       | cons x r ih => simp only [List.cons_append, sumL, ih]; omega
      have := e (ls.take (k + 1)) (ls.drop (k + 1))
      rw [List.take_append_drop] at this; omega
     unfold bulkLs
     omega
    ·have hq2 : 0 ≤ left - (ls.length : Int) - m - bulkL ls[k] := by omega
     go_wp2_with (go_at_call 30; refine (szFlowLine_any ls[k] ao2 cap2 _ _ h3 (by omega) m2 m3 m4 m1 HM5.out (HAr.out.later HB.out)).mono ?_; rintro e w1 ⟨r, rfl, hr, hb1⟩; obtain ⟨_, rfl⟩ := hr.resolve_left (fun h => by omega); have HB1 : Hid (Below w.heap.size w w1) := HB.out.trans (hb1.mono hgs); clear hb1)
     go_roundw
     case rel => exact ⟨k + 1, by omega, by go_num, by rw [HN.out]; omega, by rw [HN.out]; go_num, HB1.out⟩
     case measure => simp [intOf]; omega
   ·have e0 : ls.take k = ls := List.take_of_length_le (by omega)
    rw [e0] at h3 ⊢
    go_wp2
    go_ret
    exact ⟨_, rfl, .inr ⟨h3, by unfold bulkLs; omega⟩, HB.out⟩
end
section
open Go.RowKit
theorem eqStringS_any (ao bo : Option Addr) (ca cb : Nat) (xs ys : List ByteArray) (w : World) (hx : xs.length ≤ 9223372036854775807) (hy : ys.length ≤ 9223372036854775807) (ha : StrsAt 0 w.heap.size w ao xs) (hb : StrsAt 0 w.heap.size w bo ys) :
  Calls Tryz.prog 76 #[.slice ao xs.length ca, .slice bo ys.length cb] w fun e w' => e = .returned (.bool (decide (xs = ys))) ∧ Below w.heap.size w w' := by
 have HA : Hid (StrsAt 0 w.heap.size w ao xs) := ha
 have HB : Hid (StrsAt 0 w.heap.size w bo ys) := hb
 clear ha hb
 cases q5 : ((xs.length : Int) == (ys.length : Int)) with
 | false =>
  have b5 : ((xs.length : Int) != (ys.length : Int)) = true := by rw [bne, q5]; rfl
  have HQ : Hid (decide (xs = ys) = false) := by
   show _ = _
   rw [decide_eq_false_iff_not]
   intro e; rw [e] at q5; simp at q5
  go_enter Tryz.func76, Tryz.ntmps76
  go_wp2
  go_ret
  exact ⟨by rw [HQ.out] <;> rfl, Below.refl _ _⟩
 | true =>
  have hlen : xs.length = ys.length := by have := eq_of_beq q5; omega
  have b5 : ((xs.length : Int) != (ys.length : Int)) = false := by rw [bne, q5]; rfl
  have HLEN : Hid (xs.length = ys.length) := hlen
  clear hlen
  go_enter Tryz.func76, Tryz.ntmps76
  go_wp2
  go_loopw [5] (fun i wr => ∃ n : Nat, n ≤ xs.length ∧ i = .int .i64 n ∧ Hid (xs.take n = ys.take n) ∧ Hid (Below w.heap.size w wr)) (fun i _ => xs.length - (intOf i).toNat)
  case atStart => exact ⟨0, Nat.zero_le _, rfl, rfl, Below.refl _ _⟩
  case round =>
   obtain ⟨n, hn, rfl, HT, HBW⟩ := hrel
   by_cases hlt : n < xs.length
   ·have hlt2 : n < ys.length := by rw [← HLEN.out]; exact hlt
    obtain ⟨b, off, rfl, hB, hc0⟩ := HA.out.at n hlt
    obtain ⟨b2, off2, rfl, hB2, hc2⟩ := HB.out.at n hlt2
    have hc1 := (HBW.out.cell (p := ⟨b, off + n, none⟩) hB.2).trans hc0
    have hc3 := (HBW.out.cell (p := ⟨b2, off2 + n, none⟩) hB2.2).trans hc2
    clear hc0 hc2
    cases hq : (xs[n].toList == ys[n].toList) with
    | true =>
     have HN : Hid (xs.take (n + 1) = ys.take (n + 1)) := take_eq_snoc hlt hlt2 HT.out (by rw [beq_toList] at hq; simpa using hq)
     go_wp2
     go_region
     go_wp2
     go_roundw
     case rel => exact ⟨n + 1, by omega, by go_num, HN, HBW.out.drew⟩
     case measure => simp [intOf]; omega
    | false =>
     have HQ : Hid (decide (xs = ys) = false) := by
      show _ = _
      rw [decide_eq_false_iff_not]
      intro e
      have : xs[n] = ys[n] := by simp only [e]
      rw [beq_toList] at hq; simp [this] at hq
     go_wp2
     go_region
     go_wp2
     go_ret
     exact ⟨by rw [HQ.out] <;> rfl, HBW.out.drew⟩
   ·have HQ : Hid (decide (xs = ys) = true) := by
     show _ = _
     rw [decide_eq_true_iff]
     have h3 := HT.out
     rw [List.take_of_length_le (by omega), List.take_of_length_le (by rw [← HLEN.out]; omega)] at h3
     exact h3
    go_wp2
    go_ret
    exact ⟨by rw [HQ.out] <;> rfl, HBW.out⟩
def eqLn (l m : Ln) : Bool := (l.1 == m.1) && ((l.2.to.toList == m.2.to.toList) && ((l.2.name.toList == m.2.name.toList) && (decide (l.2.args = m.2.args) && (l.2.undo.toList == m.2.undo.toList))))
theorem eqLn_iff (l m : Ln) : eqLn l m = true ↔ l = m := by
 obtain ⟨k, a, b, c, d⟩ := l
 obtain ⟨k', a', b', c', d'⟩ := m
 simp only [eqLn, beq_toList, Bool.and_eq_true, beq_iff_eq, decide_eq_true_eq, Prod.mk.injEq, Bd.mk.injEq]
theorem eqFlowLine_any (l m : Ln) (ao bo : Option Addr) (ca cb : Nat) (w : World) (hx : l.2.args.length ≤ 9223372036854775807) (hy : m.2.args.length ≤ 9223372036854775807) (ha : StrsAt 0 w.heap.size w ao l.2.args) (hb : StrsAt 0 w.heap.size w bo m.2.args) :
  Calls Tryz.prog 36 #[.agg #[.int .i64 l.1, .string l.2.to, .string l.2.name, .slice ao l.2.args.length ca, .string l.2.undo], .agg #[.int .i64 m.1, .string m.2.to, .string m.2.name, .slice bo m.2.args.length cb, .string m.2.undo]] w fun e w' => e = .returned (.bool (eqLn l m)) ∧ Below w.heap.size w w' := by
 obtain ⟨k, d⟩ := l
 obtain ⟨k', d'⟩ := m
 simp only at ha hb hx hy ⊢
 have HA : Hid (StrsAt 0 w.heap.size w ao d.args) := ha
 have HB : Hid (StrsAt 0 w.heap.size w bo d'.args) := hb
 clear ha hb
 have HW : Hid (∀ L L' : Obj, Below w.heap.size w ((w.alloc L).alloc L')) := fun L L' => ((Below.refl _ _).alloc (Nat.le_refl _) _).alloc (by simp) _
 cases q1 : (k == k') with
 | false =>
  have b1 : (k != k') = true := by rw [bne, q1]; rfl
  go_enter Tryz.func36, Tryz.ntmps36
  go_wp2
  go_ret
  exact ⟨by simp only [eqLn, q1] <;> rfl, HW.out _ _⟩
 | true =>
  have b1 : (k != k') = false := by rw [bne, q1]; rfl
  cases q2 : (d.to.toList == d'.to.toList) with
  | false =>
   go_enter Tryz.func36, Tryz.ntmps36
   go_wp2
   go_ret
   exact ⟨by simp only [eqLn, q1, q2] <;> rfl, HW.out _ _⟩
  | true =>
   cases q3 : (d.name.toList == d'.name.toList) with
   | false =>
    go_enter Tryz.func36, Tryz.ntmps36
    go_wp2
    go_ret
    exact ⟨by simp only [eqLn, q1, q2, q3] <;> rfl, HW.out _ _⟩
   | true =>
    cases q4 : (decide (d.args = d'.args)) with
    | false =>
     go_enter Tryz.func36, Tryz.ntmps36
     go_wp2_with (go_at_call 76; refine (eqStringS_any ao bo ca cb d.args d'.args _ hx hy (HA.out.later (HW.out _ _)) (HB.out.later (HW.out _ _))).mono ?_; rintro e w1 ⟨rfl, hb1⟩; rw [q4]; have HB1 : Hid (Below w.heap.size w w1) := (HW.out _ _).trans (hb1.mono (by simp; omega)); clear hb1)
     go_ret
     exact ⟨by simp only [eqLn, q1, q2, q3, q4] <;> rfl, HB1.out⟩
    | true =>
     cases q5 : (d.undo.toList == d'.undo.toList) with
     | false =>
      go_enter Tryz.func36, Tryz.ntmps36
      go_wp2_with fail
      refine (eqStringS_any ao bo ca cb d.args d'.args _ hx hy (HA.out.later (HW.out _ _)) (HB.out.later (HW.out _ _))).mono ?_
      rintro e w1 ⟨rfl, hb1⟩
      rw [q4]
      have HB1 : Hid (Below w.heap.size w w1) := (HW.out _ _).trans (hb1.mono (by simp; omega))
      have r0 := (hb1.cell (p := ⟨w.heap.size, 4, none⟩) (by simp; omega)).trans (by simp : _ = some (Value.string d.undo))
      have r1 := (hb1.cell (p := ⟨w.heap.size + 1, 4, none⟩) (by simp)).trans (by simp : _ = some (Value.string d'.undo))
      clear hb1
      go_wp2
      go_ret
      exact ⟨by simp only [eqLn, q1, q2, q3, q4, q5] <;> rfl, HB1.out⟩
     | true =>
      go_enter Tryz.func36, Tryz.ntmps36
      go_wp2_with fail
      refine (eqStringS_any ao bo ca cb d.args d'.args _ hx hy (HA.out.later (HW.out _ _)) (HB.out.later (HW.out _ _))).mono ?_
      rintro e w1 ⟨rfl, hb1⟩
      rw [q4]
      have HB1 : Hid (Below w.heap.size w w1) := (HW.out _ _).trans (hb1.mono (by simp; omega))
      have r0 := (hb1.cell (p := ⟨w.heap.size, 4, none⟩) (by simp; omega)).trans (by simp : _ = some (Value.string d.undo))
      have r1 := (hb1.cell (p := ⟨w.heap.size + 1, 4, none⟩) (by simp)).trans (by simp : _ = some (Value.string d'.undo))
      clear hb1
      go_wp2
      go_ret
      exact ⟨by simp only [eqLn, q1, q2, q3, q4, q5] <;> rfl, HB1.out⟩
theorem take_eq_snocL {xs ys : List Ln} {k : Nat} (hx : k < xs.length) (hy : k < ys.length) (h : xs.take k = ys.take k) (he : xs[k] = ys[k]) : xs.take (k + 1) = ys.take (k + 1) := by
 rw [List.take_succ_eq_append_getElem hx, List.take_succ_eq_append_getElem hy, h, he]
theorem eqFlowLineS_any (ao bo : Option Addr) (ca cb : Nat) (ls ms : List Ln) (w : World) (hx : ls.length ≤ 1048576) (hy : ms.length ≤ 1048576) (hzx : ∀ l ∈ ls, l.2.args.length ≤ 1048576) (hzy : ∀ l ∈ ms, l.2.args.length ≤ 1048576) (ha : LinesAt w.heap.size w ao ls) (hb : LinesAt w.heap.size w bo ms) :
  Calls Tryz.prog 14 #[.slice ao ls.length ca, .slice bo ms.length cb] w fun e w' => ∃ b : Bool, e = .returned (.bool b) ∧ (b = true ↔ ls = ms) ∧ Below w.heap.size w w' := by
 have HA : Hid (LinesAt w.heap.size w ao ls) := ha
 have HB : Hid (LinesAt w.heap.size w bo ms) := hb
 have HX : Hid (∀ l ∈ ls, l.2.args.length ≤ 1048576) := hzx
 have HY : Hid (∀ l ∈ ms, l.2.args.length ≤ 1048576) := hzy
 clear ha hb hzx hzy
 cases q5 : ((ls.length : Int) == (ms.length : Int)) with
 | false =>
  have b5 : ((ls.length : Int) != (ms.length : Int)) = true := by rw [bne, q5]; rfl
  have HQ : Hid (ls ≠ ms) := by intro e; rw [e] at q5; simp at q5
  go_enter Tryz.func14, Tryz.ntmps14
  go_wp2
  go_ret
  exact ⟨false, rfl, ⟨fun h => Bool.noConfusion h, fun h => absurd h HQ.out⟩, Below.refl _ _⟩
 | true =>
  have hlen : ls.length = ms.length := by have := eq_of_beq q5; omega
  have b5 : ((ls.length : Int) != (ms.length : Int)) = false := by rw [bne, q5]; rfl
  have HLEN : Hid (ls.length = ms.length) := hlen
  clear hlen
  go_enter Tryz.func14, Tryz.ntmps14
  go_wp2
  go_loopw [5] (fun i wr => ∃ n : Nat, n ≤ ls.length ∧ i = .int .i64 n ∧ Hid (ls.take n = ms.take n) ∧ Hid (Below w.heap.size w wr)) (fun i _ => ls.length - (intOf i).toNat)
  case atStart => exact ⟨0, Nat.zero_le _, rfl, rfl, Below.refl _ _⟩
  case round =>
   obtain ⟨n, hn, rfl, HT, HBW⟩ := hrel
   by_cases hlt : n < ls.length
   ·have hlt2 : n < ms.length := by rw [← HLEN.out]; exact hlt
    obtain ⟨b, off, rfl, hB, aoA, capA, hcA, q0, q1, q2, q3, q4, hA⟩ := HA.out n hlt
    obtain ⟨b2, off2, rfl, hB2, aoB, capB, hcB, p0, p1, p2, p3, p4, hBs⟩ := HB.out n hlt2
    have c0 := (HBW.out.cell (p := ⟨b, off + n * 5, none⟩) hB).trans q0
    have c1 := (HBW.out.cell (p := ⟨b, off + n * 5 + 1, none⟩) hB).trans q1
    have c2 := (HBW.out.cell (p := ⟨b, off + n * 5 + 2, none⟩) hB).trans q2
    have c3 := (HBW.out.cell (p := ⟨b, off + n * 5 + 3, none⟩) hB).trans q3
    have c4 := (HBW.out.cell (p := ⟨b, off + n * 5 + 4, none⟩) hB).trans q4
    have d0 := (HBW.out.cell (p := ⟨b2, off2 + n * 5, none⟩) hB2).trans p0
    have d1 := (HBW.out.cell (p := ⟨b2, off2 + n * 5 + 1, none⟩) hB2).trans p1
    have d2 := (HBW.out.cell (p := ⟨b2, off2 + n * 5 + 2, none⟩) hB2).trans p2
    have d3 := (HBW.out.cell (p := ⟨b2, off2 + n * 5 + 3, none⟩) hB2).trans p3
    have d4 := (HBW.out.cell (p := ⟨b2, off2 + n * 5 + 4, none⟩) hB2).trans p4
    have HS1 : Hid (StrsAt 0 w.heap.size w aoA ls[n].2.args) := hA
    have HS2 : Hid (StrsAt 0 w.heap.size w aoB ms[n].2.args) := hBs
    have z1 := HX.out _ (List.getElem_mem hlt)
    have z2 := HY.out _ (List.getElem_mem hlt2)
    have hws := HBW.out.size
    clear q0 q1 q2 q3 q4 p0 p1 p2 p3 p4 hA hBs
    cases hq : eqLn ls[n] ms[n] with
    | true =>
     have HN : Hid (ls.take (n + 1) = ms.take (n + 1)) := take_eq_snocL hlt hlt2 HT.out ((eqLn_iff _ _).1 hq)
     go_wp2_with fail
     go_region_with (go_at_call 36; refine (eqFlowLine_any ls[n] ms[n] aoA aoB capA capB _ (by omega) (by omega) (HS1.out.later HBW.out.drew) (HS2.out.later HBW.out.drew)).mono ?_; rintro e w1 ⟨rfl, hb1⟩; rw [hq]; have HB1 : Hid (Below w.heap.size w w1) := HBW.out.drew.trans (hb1.mono hws); clear hb1)
     all_goals
      go_wp2
      go_roundw
      case rel => exact ⟨n + 1, by omega, by go_num, HN, HB1.out⟩
      case measure => simp [intOf]; omega
    | false =>
     have HQ : Hid (ls ≠ ms) := by
      intro e
      have : ls[n] = ms[n] := by simp only [e]
      rw [this, (eqLn_iff _ _).2 rfl] at hq
      exact Bool.noConfusion hq
     go_wp2_with fail
     go_region_with (go_at_call 36; refine (eqFlowLine_any ls[n] ms[n] aoA aoB capA capB _ (by omega) (by omega) (HS1.out.later HBW.out.drew) (HS2.out.later HBW.out.drew)).mono ?_; rintro e w1 ⟨rfl, hb1⟩; rw [hq]; have HB1 : Hid (Below w.heap.size w w1) := HBW.out.drew.trans (hb1.mono hws); clear hb1)
     all_goals
      go_wp2
      go_ret
      exact ⟨false, rfl, ⟨fun h => Bool.noConfusion h, fun h => absurd h HQ.out⟩, HB1.out⟩
   ·have HQ : Hid (ls = ms) := by
     have h3 := HT.out
     rw [List.take_of_length_le (by omega), List.take_of_length_le (by rw [← HLEN.out]; omega)] at h3
     exact h3
    go_wp2
    go_ret
    exact ⟨true, rfl, ⟨fun _ => HQ.out, fun _ => rfl⟩, HBW.out⟩
end
section
open Go.RowKit
def mkD (k : Nat) (out : ByteArray) : ByteArray := if h : k = 0 then out else mkD (k / 10) (⟨#[dgt (k % 10)]⟩ ++ out)
termination_by k
decreasing_by omega
def markT (k : Nat) : ByteArray := if k = 0 then ⟨#[109, 48]⟩ else ⟨#[109]⟩ ++ mkD k ⟨#[]⟩
theorem mkD_pos {k : Nat} (h : 0 < k) (out : ByteArray) : mkD k out = mkD (k / 10) (⟨#[dgt (k % 10)]⟩ ++ out) := by
 rw [mkD, dif_neg (by omega)]
theorem mkD_zero (out : ByteArray) : mkD 0 out = out := by rw [mkD, dif_pos rfl]
theorem markText_any (k : Nat) (w : World) (hk : k ≤ 4398046511104) :
  Calls Tryz.prog 37 #[.int .i64 k] w fun e w' => e = .returned (.string (markT k)) ∧ Below w.heap.size w w' := by
 by_cases h0 : k = 0
 ·subst h0
  go_enter Tryz.func37, Tryz.ntmps37
  go_wp2
  go_ret
  exact ⟨rfl, Below.refl _ _⟩
 ·have hk0 : 0 < k := by omega
  have HT : Hid (markT k = ⟨#[109]⟩ ++ mkD k ⟨#[]⟩) := by show _ = _; rw [markT, if_neg h0]
  have kc : ∀ (wx : World) (d : Nat), d < 10 → (convert 40 9 (.slice (some ⟨wx.heap.size, 0, none⟩) 1 1)).run Tryz.prog (wx.alloc (.cells #[.int .u8 (48 + (d : Int))] 5)) = .ok (.string ⟨#[dgt d]⟩) (wx.alloc (.cells #[.int .u8 (48 + (d : Int))] 5)) := fun wx d hd => by
   refine run_convert_bytes_back (P := Tryz.prog) _ 40 9 5 ⟨wx.heap.size, 0, none⟩ 1 [dgt d] Tryz.underlying40 Tryz.underlying5 Tryz.underlying9 ?_
   intro j hj
   have : j = 0 := by simpa using hj
   subst this
   have e : (⟨wx.heap.size, 0, none⟩ : Addr).add 0 = ⟨wx.heap.size, 0, none⟩ := by
    unfold Addr.add; split
    ·rfl
    ·rfl
   rw [e]
   simp [dgt_toNat hd]
  go_enter Tryz.func37, Tryz.ntmps37
  go_wp2
  go_loopw [0, 3] (fun n y wr => ∃ (m : Nat) (out : ByteArray), n = .int .i64 m ∧ y = .string out ∧ Hid (mkD m out = mkD k ⟨#[]⟩) ∧ m ≤ 4398046511104 ∧ Hid (m < 2 ^ (43 - out.size)) ∧ out.size ≤ 43 ∧ Hid (Below w.heap.size w wr)) (fun n _ _ => (intOf n).toNat)
  case atStart => exact ⟨k, ⟨#[]⟩, rfl, rfl, rfl, hk, by show k < 2 ^ 43; omega, by show 0 ≤ 43; omega, Below.refl _ _⟩
  case round =>
   obtain ⟨m, out, rfl, rfl, HM, hm, HS, hs, HB⟩ := hrel
   by_cases hlt : 0 < m
   ·have hmod : m % 10 < 10 := Nat.mod_lt _ (by decide)
    have kc1 := kc wr (m % 10) hmod
    rw [show ((m % 10 : Nat) : Int) = (m : Int) % 10 by omega] at kc1
    have f1 : ¬ 9223372036854775807 < 1 + out.size := by omega
    have HN : Hid (mkD (m / 10) (⟨#[dgt (m % 10)]⟩ ++ out) = mkD k ⟨#[]⟩) := by show _ = _; rw [← mkD_pos hlt]; exact HM.out
    have hlt43 : out.size < 43 := by
     rcases Nat.lt_or_ge out.size 43 with h | h
     ·exact h
     ·have h1 := HS.out
      rw [show 43 - out.size = 0 by omega] at h1
      omega
    have HS2 : Hid (m / 10 < 2 ^ (43 - (out.size + 1))) := by
     have h1 := HS.out
     rw [show 43 - out.size = (43 - (out.size + 1)) + 1 by omega, Nat.pow_succ] at h1
     show _ < _
     omega
    have hsz : (⟨#[dgt (m % 10)]⟩ ++ out : ByteArray).size = out.size + 1 := by rw [ByteArray.size_append]; show 1 + _ = _; omega
    have HSZ : Hid ((⟨#[dgt (m % 10)]⟩ ++ out : ByteArray).size = out.size + 1) := hsz
    clear kc hsz
    go_wp2
    go_roundw
    case rel => exact ⟨m / 10, ⟨#[dgt (m % 10)]⟩ ++ out, by go_num, rfl, HN, by omega, by show _ < _; rw [HSZ.out]; exact HS2.out, by rw [HSZ.out]; omega, HB.out.alloc HB.out.size _⟩
    case measure => simp [intOf]; omega
   ·have e : m = 0 := by omega
    subst e
    have HN : Hid (out = mkD k ⟨#[]⟩) := by show _ = _; rw [← HM.out, mkD_zero]
    have f1 : ¬ 9223372036854775807 < 1 + out.size := by omega
    clear kc
    go_wp2
    go_ret
    exact ⟨by rw [HT.out, ← HN.out] <;> rfl, HB.out⟩
end
section
open Go.RowKit
def marksS (k n : Nat) : List ByteArray := (List.range n).map fun i => markT (k + i)
theorem marksS_len (k n : Nat) : (marksS k n).length = n := by simp [marksS]
theorem marksS_succ (k n : Nat) : marksS k (n + 1) = marksS k n ++ [markT (k + n)] := by simp [marksS, List.range_succ]
theorem marksS_at (k n i : Nat) (h : i < (marksS k n).length) : (marksS k n)[i] = markT (k + i) := by simp [marksS]
theorem mark_set (k : Nat) (ss : List ByteArray) (j : Nat) (h : j < ss.length) : (strCells (marksS k j ++ ss.drop j)).set j (.string (markT (k + j))) = strCells (marksS k (j + 1) ++ ss.drop (j + 1)) := by
 unfold strCells
 have e : ((marksS k j).map Value.string).length = j := by simp [marksS_len]
 rw [List.map_append, List.drop_eq_getElem_cons h, List.map_cons, List.set_append_right _ _ (by rw [e]; omega), e, Nat.sub_self, List.set_cons_zero, marksS_succ, List.map_append, List.map_append, List.append_assoc]; rfl
theorem markStringS_any (v : Value) (ss : List ByteArray) (base k : Nat) (w : World) (hk : k + ss.length ≤ 4398046511104) (ho : w.ownsRow base 9 1 v ss.length (strCells ss)) :
  Calls Tryz.prog 38 #[v, .int .i64 k] w fun e w' => e = .returned (.int .i64 (k + ss.length : Nat)) ∧ w'.ownsRow base 9 1 v ss.length (strCells (marksS k ss.length)) ∧ Inn (fun b => v.ownBlock = some b) w w' := by
 by_cases h0 : ss.length = 0
 ·obtain ⟨vo, vc, rfl, _⟩ := own_form ho
  have HO : Hid (w.ownsRow base 9 1 (.slice vo ss.length vc) ss.length (strCells ss)) := ho
  have e : ss = [] := List.length_eq_zero_iff.1 h0
  subst e
  clear ho
  go_enter Tryz.func38, Tryz.ntmps38
  go_wp2
  go_loop [1, 5] (fun y i => y = .int .i64 k ∧ i = .int .i64 0) (fun _ _ => 0)
  case atStart => exact ⟨rfl, rfl⟩
  case round =>
   obtain ⟨rfl, rfl⟩ := hrel
   go_wp2
   go_ret
   exact ⟨rfl, HO.out, Inn.refl⟩
 ·obtain ⟨g, cap, rfl⟩ : ∃ g cap, v = .slice (some ⟨g, 0, none⟩) ss.length cap := by
   rcases ho.2 with ⟨_, h⟩ | ⟨g, cap, cur, rfl, _⟩
   ·exact absurd h h0
   ·exact ⟨g, cap, rfl⟩
  have HO : Hid (w.ownsRow base 9 1 (.slice (some ⟨g, 0, none⟩) ss.length cap) ss.length (strCells ss)) := ho
  clear ho
  go_enter Tryz.func38, Tryz.ntmps38
  go_wp2
  go_loopw [1, 5] (fun y i wr => ∃ j : Nat, j ≤ ss.length ∧ i = .int .i64 j ∧ y = .int .i64 (k + j : Nat) ∧ Hid (wr.ownsRow base 9 1 (.slice (some ⟨g, 0, none⟩) ss.length cap) ss.length (strCells (marksS k j ++ ss.drop j))) ∧ Hid (Inn (fun b => (Value.slice (some ⟨g, 0, none⟩) ss.length cap).ownBlock = some b) w wr)) (fun _ i _ => ss.length - (intOf i).toNat)
  case atStart => exact ⟨0, Nat.zero_le _, rfl, rfl, by simpa [Hid, marksS] using HO.out, Inn.refl⟩
  case round =>
   obtain ⟨j, hj, rfl, rfl, HR, HI⟩ := hrel
   by_cases hlt : j < ss.length
   ·go_wp2_with fail
    refine (markText_any (k + j) wr (by omega)).mono ?_
    rintro e w2 ⟨rfl, hb2⟩
    have hr2 := own_below HR.out hb2
    have hf := hr2.frozenAt j
    obtain ⟨old, hold⟩ : ∃ old, w2.cell? ⟨g, j, none⟩ = some old := by
     rw [hr2.cellAt j (by omega)]
     have hl : j < (strCells (marksS k j ++ ss.drop j)).length := by rw [hr2.1]; omega
     exact ⟨_, List.getElem?_eq_getElem hl⟩
    have HS : Hid ((w2.setCell ⟨g, j, none⟩ (.string (markT (k + j)))).ownsRow base 9 1 (.slice (some ⟨g, 0, none⟩) ss.length cap) ss.length (strCells (marksS k (j + 1) ++ ss.drop (j + 1)))) := by
     show World.ownsRow _ _ _ _ _ _ _
     rw [← mark_set k ss j hlt]; exact own_set hr2 _ _
    have HI2 : Hid (Inn (fun b => (Value.slice (some ⟨g, 0, none⟩) ss.length cap).ownBlock = some b) w (w2.setCell ⟨g, j, none⟩ (.string (markT (k + j))))) :=
     (HI.out.trans (Inn.of_below hb2)).trans (Inn.of_grown (grown_setCell g j _) (fun b hb => by cases hb; rfl))
    clear hb2 hr2
    go_wp2
    go_roundw
    case rel => exact ⟨j + 1, by omega, by go_num, by go_num, HS, HI2⟩
    case measure => simp [intOf]; omega
   ·have e : j = ss.length := by omega
    subst e
    have HS : Hid (wr.ownsRow base 9 1 (.slice (some ⟨g, 0, none⟩) ss.length cap) ss.length (strCells (marksS k ss.length))) := by
     have := HR.out
     rw [List.drop_length, List.append_nil] at this
     exact this
    clear HR
    go_wp2
    go_ret
    exact ⟨rfl, HS.out, HI.out⟩
theorem heldStringS_any (ao : Option Addr) (cap n k : Nat) (w : World) (hk : k + n ≤ 4398046511104) (hi : StrsAt 0 w.heap.size w ao (marksS k n)) :
  Calls Tryz.prog 39 #[.slice ao n cap, .int .i64 k] w fun e w' => e = .returned (.int .i64 (k + n : Nat)) ∧ Below w.heap.size w w' := by
 have HI : Hid (StrsAt 0 w.heap.size w ao (marksS k n)) := hi
 clear hi
 go_enter Tryz.func39, Tryz.ntmps39
 go_wp2
 go_loopw [1, 5] (fun y i wr => ∃ j : Nat, j ≤ n ∧ i = .int .i64 j ∧ y = .int .i64 (k + j : Nat) ∧ Hid (Below w.heap.size w wr)) (fun _ i _ => n - (intOf i).toNat)
 case atStart => exact ⟨0, Nat.zero_le _, rfl, rfl, Below.refl _ _⟩
 case round =>
  obtain ⟨j, hj, rfl, rfl, HB⟩ := hrel
  by_cases hlt : j < n
  ·obtain ⟨b, off, rfl, hB, hc⟩ := HI.out.at j (by rw [marksS_len]; exact hlt)
   rw [marksS_at] at hc
   have hb0 : b < w.heap.size := hB.2
   have hws := HB.out.size
   have hb1 : b < wr.heap.size := by omega
   have hc1 := (HB.out.cell (p := ⟨b, off + j, none⟩) hb0).trans hc
   clear hc
   go_wp2_with fail
   go_region_with (go_at_call 37; refine (markText_any (k + j) _ (by omega)).mono ?_; rintro e w2 ⟨rfl, hb2⟩; have HB2 : Hid (Below w.heap.size w w2) := HB.out.drew.trans (hb2.mono hws); have hc2 := (hb2.cell (p := ⟨b, off + j, none⟩) hb1).trans hc1; clear hb2)
   all_goals
    go_wp2
    go_roundw
    case rel => exact ⟨j + 1, by omega, by go_num, by go_num, HB2⟩
    case measure => simp [intOf]; omega
  ·have e : j = n := by omega
   subst e
   go_wp2
   go_ret
   exact ⟨rfl, HB.out⟩
end
end Go.Proofs.YtlbjjbolbopfmaaGreatDoor
