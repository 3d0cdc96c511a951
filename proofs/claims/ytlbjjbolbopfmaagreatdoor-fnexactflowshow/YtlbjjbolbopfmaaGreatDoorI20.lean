import Derived.Test.YtlbjjbolbopfmaaGreatDoorI09
import Derived.Test.YtlbjjbolbopfmaaGreatDoorI17
import Derived.BigQuiet
import Derived.Deep.QuietTactic
import Derived.Test.YtlbjjbolbopfmaaGreatDoorI19
import Derived.Laws.IdiomStrings
import Derived.Deep.RegionWith
namespace Go.Proofs.YtlbjjbolbopfmaaGreatDoor
set_option maxHeartbeats 2000000
set_option maxRecDepth 1000000
set_option linter.unusedVariables false
section
open Go.RowKit
theorem z_cO (ao bo : Option Addr) (ca cb : Nat) (xs ys : List ByteArray) (w : World) (hx : xs.length ≤ 9223372036854775807) (hy : ys.length ≤ 9223372036854775807) (ha : StrsAt 0 w.heap.size w ao xs) (hb : StrsAt 0 w.heap.size w bo ys) :
  Calls Tryz.prog 76 #[.slice ao xs.length ca, .slice bo ys.length cb] w fun e w' => e = .returned (.bool (decide (xs = ys))) ∧ Below w.heap.size w w' := by
 have HA : Hid (StrsAt 0 w.heap.size w ao xs) := ha
 have HB : Hid (StrsAt 0 w.heap.size w bo ys) := hb
 clear ha hb
 cases q5 : ((xs.length : Int) == (ys.length : Int)) with
 | false =>
  have b5 : ((xs.length : Int) != (ys.length : Int)) = true := by rw [bne, q5]; rfl
  have HQ : Hid (decide (xs = ys) = false) := by
   show _ = _
   rw [decide_eq_false_iff_not]
   intro e; rw [e] at q5; simp at q5
  go_enter Tryz.func76, Tryz.ntmps76
  go_wp2
  go_ret
  exact ⟨by rw [HQ.out] <;> rfl, Below.refl _ _⟩
 | true =>
  have hlen : xs.length = ys.length := by have := eq_of_beq q5; omega
  have b5 : ((xs.length : Int) != (ys.length : Int)) = false := by rw [bne, q5]; rfl
  have HLEN : Hid (xs.length = ys.length) := hlen
  clear hlen
  go_enter Tryz.func76, Tryz.ntmps76
  go_wp2
  go_loopw [5] (fun i wr => ∃ n : Nat, n ≤ xs.length ∧ i = .int .i64 n ∧ Hid (xs.take n = ys.take n) ∧ Hid (Below w.heap.size w wr)) (fun i _ => xs.length - (intOf i).toNat)
  case atStart => exact ⟨0, Nat.zero_le _, rfl, rfl, Below.refl _ _⟩
  case round =>
   obtain ⟨n, hn, rfl, HT, HBW⟩ := hrel
   by_cases hlt : n < xs.length
   ·have hlt2 : n < ys.length := by rw [← HLEN.out]; exact hlt
    obtain ⟨b, off, rfl, hB, hc0⟩ := HA.out.at n hlt
    obtain ⟨b2, off2, rfl, hB2, hc2⟩ := HB.out.at n hlt2
    have hc1 := (HBW.out.cell (p := ⟨b, off + n, none⟩) hB.2).trans hc0
    have hc3 := (HBW.out.cell (p := ⟨b2, off2 + n, none⟩) hB2.2).trans hc2
    clear hc0 hc2
    cases hq : (xs[n].toList == ys[n].toList) with
    | true =>
     have HN : Hid (xs.take (n + 1) = ys.take (n + 1)) := z_en hlt hlt2 HT.out (by rw [z_aI] at hq; simpa using hq)
     go_wp2
     go_region
     go_wp2
     go_roundw
     case rel => exact ⟨n + 1, by omega, by go_num, HN, HBW.out.drew⟩
     case measure => simp [intOf]; omega
    | false =>
     have HQ : Hid (decide (xs = ys) = false) := by
      show _ = _
      rw [decide_eq_false_iff_not]
      intro e
      have : xs[n] = ys[n] := by simp only [e]
      rw [z_aI] at hq; simp [this] at hq
     go_wp2
     go_region
     go_wp2
     go_ret
     exact ⟨by rw [HQ.out] <;> rfl, HBW.out.drew⟩
   ·have HQ : Hid (decide (xs = ys) = true) := by
     show _ = _
     rw [decide_eq_true_iff]
     have h3 := HT.out
     rw [List.take_of_length_le (by omega), List.take_of_length_le (by rw [← HLEN.out]; omega)] at h3
     exact h3
    go_wp2
    go_ret
    exact ⟨by rw [HQ.out] <;> rfl, HBW.out⟩
def eqLn (l m : Ln) : Bool := (l.1 == m.1) && ((l.2.to.toList == m.2.to.toList) && ((l.2.name.toList == m.2.name.toList) && (decide (l.2.args = m.2.args) && (l.2.undo.toList == m.2.undo.toList))))
theorem z_j6 (l m : Ln) : eqLn l m = true ↔ l = m := by
 obtain ⟨k, a, b, c, d⟩ := l
 obtain ⟨k', a', b', c', d'⟩ := m
 simp only [eqLn, z_aI, Bool.and_eq_true, beq_iff_eq, decide_eq_true_eq, Prod.mk.injEq, Bd.mk.injEq]
theorem z_do (l m : Ln) (ao bo : Option Addr) (ca cb : Nat) (w : World) (hx : l.2.args.length ≤ 9223372036854775807) (hy : m.2.args.length ≤ 9223372036854775807) (ha : StrsAt 0 w.heap.size w ao l.2.args) (hb : StrsAt 0 w.heap.size w bo m.2.args) :
  Calls Tryz.prog 36 #[.agg #[.int .i64 l.1, .string l.2.to, .string l.2.name, .slice ao l.2.args.length ca, .string l.2.undo], .agg #[.int .i64 m.1, .string m.2.to, .string m.2.name, .slice bo m.2.args.length cb, .string m.2.undo]] w fun e w' => e = .returned (.bool (eqLn l m)) ∧ Below w.heap.size w w' := by
 obtain ⟨k, d⟩ := l
 obtain ⟨k', d'⟩ := m
 simp only at ha hb hx hy ⊢
 have HA : Hid (StrsAt 0 w.heap.size w ao d.args) := ha
 have HB : Hid (StrsAt 0 w.heap.size w bo d'.args) := hb
 clear ha hb
 have HW : Hid (∀ L L' : Obj, Below w.heap.size w ((w.alloc L).alloc L')) := fun L L' => ((Below.refl _ _).alloc (Nat.le_refl _) _).alloc (by simp) _
 cases q1 : (k == k') with
 | false =>
  have b1 : (k != k') = true := by rw [bne, q1]; rfl
  go_enter Tryz.func36, Tryz.ntmps36
  go_wp2
  go_ret
  exact ⟨by simp only [eqLn, q1] <;> rfl, HW.out _ _⟩
 | true =>
  have b1 : (k != k') = false := by rw [bne, q1]; rfl
  cases q2 : (d.to.toList == d'.to.toList) with
  | false =>
   go_enter Tryz.func36, Tryz.ntmps36
   go_wp2
   go_ret
   exact ⟨by simp only [eqLn, q1, q2] <;> rfl, HW.out _ _⟩
  | true =>
   cases q3 : (d.name.toList == d'.name.toList) with
   | false =>
    go_enter Tryz.func36, Tryz.ntmps36
    go_wp2
    go_ret
    exact ⟨by simp only [eqLn, q1, q2, q3] <;> rfl, HW.out _ _⟩
   | true =>
    cases q4 : (decide (d.args = d'.args)) with
    | false =>
     go_enter Tryz.func36, Tryz.ntmps36
     go_wp2_with (go_at_call 76; refine (z_cO ao bo ca cb d.args d'.args _ hx hy (HA.out.later (HW.out _ _)) (HB.out.later (HW.out _ _))).mono ?_; rintro e w1 ⟨rfl, hb1⟩; rw [q4]; have HB1 : Hid (Below w.heap.size w w1) := (HW.out _ _).trans (hb1.mono (by simp; omega)); clear hb1)
     go_ret
     exact ⟨by simp only [eqLn, q1, q2, q3, q4] <;> rfl, HB1.out⟩
    | true =>
     cases q5 : (d.undo.toList == d'.undo.toList) with
     | false =>
      go_enter Tryz.func36, Tryz.ntmps36
      go_wp2_with fail
      refine (z_cO ao bo ca cb d.args d'.args _ hx hy (HA.out.later (HW.out _ _)) (HB.out.later (HW.out _ _))).mono ?_
      rintro e w1 ⟨rfl, hb1⟩
      rw [q4]
      have HB1 : Hid (Below w.heap.size w w1) := (HW.out _ _).trans (hb1.mono (by simp; omega))
      have r0 := (hb1.cell (p := ⟨w.heap.size, 4, none⟩) (by simp; omega)).trans (by simp : _ = some (Value.string d.undo))
      have r1 := (hb1.cell (p := ⟨w.heap.size + 1, 4, none⟩) (by simp)).trans (by simp : _ = some (Value.string d'.undo))
      clear hb1
      go_wp2
      go_ret
      exact ⟨by simp only [eqLn, q1, q2, q3, q4, q5] <;> rfl, HB1.out⟩
     | true =>
      go_enter Tryz.func36, Tryz.ntmps36
      go_wp2_with fail
      refine (z_cO ao bo ca cb d.args d'.args _ hx hy (HA.out.later (HW.out _ _)) (HB.out.later (HW.out _ _))).mono ?_
      rintro e w1 ⟨rfl, hb1⟩
      rw [q4]
      have HB1 : Hid (Below w.heap.size w w1) := (HW.out _ _).trans (hb1.mono (by simp; omega))
      have r0 := (hb1.cell (p := ⟨w.heap.size, 4, none⟩) (by simp; omega)).trans (by simp : _ = some (Value.string d.undo))
      have r1 := (hb1.cell (p := ⟨w.heap.size + 1, 4, none⟩) (by simp)).trans (by simp : _ = some (Value.string d'.undo))
      clear hb1
      go_wp2
      go_ret
      exact ⟨by simp only [eqLn, q1, q2, q3, q4, q5] <;> rfl, HB1.out⟩
theorem z_hA {xs ys : List Ln} {k : Nat} (hx : k < xs.length) (hy : k < ys.length) (h : xs.take k = ys.take k) (he : xs[k] = ys[k]) : xs.take (k + 1) = ys.take (k + 1) := by
 rw [List.take_succ_eq_append_getElem hx, List.take_succ_eq_append_getElem hy, h, he]
theorem z_eV (ao bo : Option Addr) (ca cb : Nat) (ls ms : List Ln) (w : World) (hx : ls.length ≤ 1048576) (hy : ms.length ≤ 1048576) (hzx : ∀ l ∈ ls, l.2.args.length ≤ 1048576) (hzy : ∀ l ∈ ms, l.2.args.length ≤ 1048576) (ha : LinesAt w.heap.size w ao ls) (hb : LinesAt w.heap.size w bo ms) :
  Calls Tryz.prog 14 #[.slice ao ls.length ca, .slice bo ms.length cb] w fun e w' => ∃ b : Bool, e = .returned (.bool b) ∧ (b = true ↔ ls = ms) ∧ Below w.heap.size w w' := by
 have HA : Hid (LinesAt w.heap.size w ao ls) := ha
 have HB : Hid (LinesAt w.heap.size w bo ms) := hb
 have HX : Hid (∀ l ∈ ls, l.2.args.length ≤ 1048576) := hzx
 have HY : Hid (∀ l ∈ ms, l.2.args.length ≤ 1048576) := hzy
 clear ha hb hzx hzy
 cases q5 : ((ls.length : Int) == (ms.length : Int)) with
 | false =>
  have b5 : ((ls.length : Int) != (ms.length : Int)) = true := by rw [bne, q5]; rfl
  have HQ : Hid (ls ≠ ms) := by intro e; rw [e] at q5; simp at q5
  go_enter Tryz.func14, Tryz.ntmps14
  go_wp2
  go_ret
  exact ⟨false, rfl, ⟨fun h => Bool.noConfusion h, fun h => absurd h HQ.out⟩, Below.refl _ _⟩
 | true =>
  have hlen : ls.length = ms.length := by have := eq_of_beq q5; omega
  have b5 : ((ls.length : Int) != (ms.length : Int)) = false := by rw [bne, q5]; rfl
  have HLEN : Hid (ls.length = ms.length) := hlen
  clear hlen
  go_enter Tryz.func14, Tryz.ntmps14
  go_wp2
  go_loopw [5] (fun i wr => ∃ n : Nat, n ≤ ls.length ∧ i = .int .i64 n ∧ Hid (ls.take n = ms.take n) ∧ Hid (Below w.heap.size w wr)) (fun i _ => ls.length - (intOf i).toNat)
  case atStart => exact ⟨0, Nat.zero_le _, rfl, rfl, Below.refl _ _⟩
  case round =>
   obtain ⟨n, hn, rfl, HT, HBW⟩ := hrel
   by_cases hlt : n < ls.length
   ·have hlt2 : n < ms.length := by rw [← HLEN.out]; exact hlt
    obtain ⟨b, off, rfl, hB, aoA, capA, hcA, q0, q1, q2, q3, q4, hA⟩ := HA.out n hlt
    obtain ⟨b2, off2, rfl, hB2, aoB, capB, hcB, p0, p1, p2, p3, p4, hBs⟩ := HB.out n hlt2
    have c0 := (HBW.out.cell (p := ⟨b, off + n * 5, none⟩) hB).trans q0
    have c1 := (HBW.out.cell (p := ⟨b, off + n * 5 + 1, none⟩) hB).trans q1
    have c2 := (HBW.out.cell (p := ⟨b, off + n * 5 + 2, none⟩) hB).trans q2
    have c3 := (HBW.out.cell (p := ⟨b, off + n * 5 + 3, none⟩) hB).trans q3
    have c4 := (HBW.out.cell (p := ⟨b, off + n * 5 + 4, none⟩) hB).trans q4
    have d0 := (HBW.out.cell (p := ⟨b2, off2 + n * 5, none⟩) hB2).trans p0
    have d1 := (HBW.out.cell (p := ⟨b2, off2 + n * 5 + 1, none⟩) hB2).trans p1
    have d2 := (HBW.out.cell (p := ⟨b2, off2 + n * 5 + 2, none⟩) hB2).trans p2
    have d3 := (HBW.out.cell (p := ⟨b2, off2 + n * 5 + 3, none⟩) hB2).trans p3
    have d4 := (HBW.out.cell (p := ⟨b2, off2 + n * 5 + 4, none⟩) hB2).trans p4
    have HS1 : Hid (StrsAt 0 w.heap.size w aoA ls[n].2.args) := hA
    have HS2 : Hid (StrsAt 0 w.heap.size w aoB ms[n].2.args) := hBs
    have z1 := HX.out _ (List.getElem_mem hlt)
    have z2 := HY.out _ (List.getElem_mem hlt2)
    have hws := HBW.out.size
    clear q0 q1 q2 q3 q4 p0 p1 p2 p3 p4 hA hBs
    cases hq : eqLn ls[n] ms[n] with
    | true =>
     have HN : Hid (ls.take (n + 1) = ms.take (n + 1)) := z_hA hlt hlt2 HT.out ((z_j6 _ _).1 hq)
     go_wp2_with fail
     go_region_with (go_at_call 36; refine (z_do ls[n] ms[n] aoA aoB capA capB _ (by omega) (by omega) (HS1.out.later HBW.out.drew) (HS2.out.later HBW.out.drew)).mono ?_; rintro e w1 ⟨rfl, hb1⟩; rw [hq]; have HB1 : Hid (Below w.heap.size w w1) := HBW.out.drew.trans (hb1.mono hws); clear hb1)
     all_goals
      go_wp2
      go_roundw
      case rel => exact ⟨n + 1, by omega, by go_num, HN, HB1.out⟩
      case measure => simp [intOf]; omega
    | false =>
     have HQ : Hid (ls ≠ ms) := by
      intro e
      have : ls[n] = ms[n] := by simp only [e]
      rw [this, (z_j6 _ _).2 rfl] at hq
      exact Bool.noConfusion hq
     go_wp2_with fail
     go_region_with (go_at_call 36; refine (z_do ls[n] ms[n] aoA aoB capA capB _ (by omega) (by omega) (HS1.out.later HBW.out.drew) (HS2.out.later HBW.out.drew)).mono ?_; rintro e w1 ⟨rfl, hb1⟩; rw [hq]; have HB1 : Hid (Below w.heap.size w w1) := HBW.out.drew.trans (hb1.mono hws); clear hb1)
     all_goals
      go_wp2
      go_ret
      exact ⟨false, rfl, ⟨fun h => Bool.noConfusion h, fun h => absurd h HQ.out⟩, HB1.out⟩
   ·have HQ : Hid (ls = ms) := by
     have h3 := HT.out
     rw [List.take_of_length_le (by omega), List.take_of_length_le (by rw [← HLEN.out]; omega)] at h3
     exact h3
    go_wp2
    go_ret
    exact ⟨true, rfl, ⟨fun _ => HQ.out, fun _ => rfl⟩, HBW.out⟩
end
section
open Go.RowKit
set_option linter.unusedVariables false
end
section
open Go.RowKit
set_option linter.unusedVariables false
end
section
open Go.RowKit
section
variable {α : Type} (mk : Nat → α → α) (cnt : α → Nat)
end
theorem z_k0 {α : Type} {ps qs : List (α × Value)} (h : ps.map (·.2) = qs.map (·.2)) (hp : ps.Pairwise fun p q => ∀ k, p.2.ownBlock = some k → q.2.ownBlock ≠ some k) : qs.Pairwise fun p q => ∀ k, p.2.ownBlock = some k → q.2.ownBlock ≠ some k := by
 have h1 : (ps.map (·.2)).Pairwise fun (a b : Value) => ∀ k, a.ownBlock = some k → b.ownBlock ≠ some k := List.pairwise_map.2 hp
 rw [h] at h1
 exact List.pairwise_map.1 h1
section
variable {β : Type} {F : β → List Value} {K : Nat} {w : World} {base n cap g : Nat} {T : TypeId} {ms : List β} {i : Nat} {q q' : β}
theorem z_lB (hF : ∀ b, (F b).length = K) (h : w.ownsRow base T K (.slice (some ⟨g, 0, none⟩) n cap) n ((ms.set i q).flatMap F)) (hi : i < ms.length) (j : Nat) (hj : j < K) (u : Value) (hq : F q' = (F q).set j u) :
  (w.setCell ⟨g, i * K + j, none⟩ u).ownsRow base T K (.slice (some ⟨g, 0, none⟩) n cap) n ((ms.set i q').flatMap F) := by
 have h1 := z_cS h (i * K + j) u
 rw [z_j9 hF u q' (ms.set i q) i j (by simpa using hi) hj (by simpa using hq), List.set_set] at h1
 exact h1
end
theorem OwnSt.step {α : Type} {T : TypeId} {K : Nat} {f : α → Value → List Value} {ar : α → List ByteArray} {base : Nat} {w w' : World} {v : Value} {ms : List (α × Value)} (h : OwnSt T K f ar base w v ms) (hT : T ≠ 9) {j : Nat} (hj : j < ms.length) {q : α × Value} (hv : q.2 = ms[j].2)
  (hrow : w'.ownsRow base T K v ms.length ((ms.set j q).flatMap fun p => f p.1 p.2)) (hargs : w'.ownsRow base 9 1 q.2 (ar q.1).length (strCells (ar q.1))) (hi : Inn (fun b => v.ownBlock = some b ∨ q.2.ownBlock = some b) w w') : OwnSt T K f ar base w' v (ms.set j q) := by
 have hvals : ms.map (·.2) = (ms.set j q).map (·.2) := by
  rw [List.map_set]
  apply List.ext_getElem (by simp)
  intro n h3 h4
  rw [List.getElem_set]
  split
  ·rename_i e; subst e; simp [hv]
  ·rfl
 refine ⟨by rw [List.length_set]; exact hrow, fun x hx => ?_, z_k0 hvals h.apart⟩
 obtain ⟨i, hi2, rfl⟩ := List.getElem_of_mem hx
 rw [List.getElem_set]
 split
 ·exact hargs
 ·rename_i hne
  have hi3 : i < ms.length := by simpa using hi2
  refine hi.own (h.args _ (List.getElem_mem hi3)) fun k hk hs => ?_
  rcases hs with hs | hs
  ·exact z_cH h.row (h.args _ (List.getElem_mem hi3)) hT k hs hk
  ·rw [hv] at hs
   have hp := List.pairwise_iff_getElem.1 h.apart
   rcases Nat.lt_or_gt_of_ne hne with hl | hl
   ·exact hp j i hj hi3 hl k hs hk
   ·exact hp i j hi3 hj hl k hk hs
end
section
open Go.RowKit
set_option linter.unusedVariables false
end
section
open Go.RowKit
theorem z_dv (k : Nat) (hk : k = 4 ∨ k = 12 ∨ k = 13) (ao : Option Addr) (c : Nat) (ws : List ByteArray) (w : World) (hl : ws.length ≤ 4398046511000) (h1 : ¬ ws.length = 1) (hc : ws.length ≤ c) (hi : StrsAt 0 w.heap.size w ao ws) :
  Calls Tryz.prog 171 #[.int .i64 k, .slice ao ws.length c] w (z_bg w k ws) := by
 have HN : Hid (z_af (k : Int) ws = none) := by
  have : z_af (k : Int) ws = pOperand ws := by rcases hk with rfl | rfl | rfl <;> rfl
  show _ = _; rw [this, pOperand, if_neg h1]
 have HI : Hid (StrsAt 0 w.heap.size w ao ws) := hi
 have HC : Hid (ws.length ≤ c) := hc
 have h0 : ((ws.length : Int) == 1) = false := by simp; omega
 clear hi hc
 rcases hk with rfl | rfl | rfl
 all_goals
  go_enter Tryz.func171, Tryz.ntmps171
  go_wp2_with fail
  go_region
  go_wp2_with fail
  refine bodyPost_ret (v := .tuple #[.agg #[.int .i64 _, .string ⟨#[]⟩, .string ⟨#[]⟩, .slice ao ws.length c, .string ⟨#[]⟩], .bool false]) (by simp [results, Tryz.results171, go_sem]; rfl) rfl ?_
  exact z_aH (z_ab _ _ _).drew HC.out (HI.out.later (z_ab _ _ _).drew) HN.out (Nat.le_refl _)
theorem z_mD {ws : List ByteArray} (h : ws.length = 1) : ∃ x, ws = [x] := by
 match ws, h with
 | [x], _ => exact ⟨x, rfl⟩
theorem z_ih (ao : Option Addr) (c : Nat) (ws : List ByteArray) (w : World) (hl : ws.length ≤ 4398046511000) (hz : ∀ s ∈ ws, s.size ≤ 4398046511104) (hi : StrsAt 0 w.heap.size w ao ws) :
  Calls Tryz.prog 171 #[.int .i64 (14 : Nat), .slice ao ws.length c] w (z_bg w (14 : Nat) ws) := by
 by_cases h1 : ws.length = 1
 ·obtain ⟨x, rfl⟩ := z_mD h1
  obtain ⟨b, off, rfl, hB, hc⟩ := hi.at 0 (by simp)
  have hx := hz x (by simp)
  have c0 : w.cell? ⟨b, off, none⟩ = some (.string x) := hc
  have hb0 : b < w.heap.size := hB.2
  clear hi hz hc hl h1
  rw [List.length_singleton]
  cases hn : z_ac x with
  | true =>
   have HN : Hid (z_af ((14 : Nat) : Int) [x] = some ⟨eS, x, [], eS⟩) := by show pPatch [x] = _; rw [pPatch, if_pos hn]
   go_enter Tryz.func171, Tryz.ntmps171
   go_wp2_with (go_at_call 140; refine (z_a x _ (by omega)).mono ?_; rintro e wx ⟨rfl, rfl⟩; rw [hn])
   refine bodyPost_ret (v := .tuple #[.agg #[.int .i64 _, .string ⟨#[]⟩, .string x, .slice none 0 0, .string ⟨#[]⟩], .bool true]) (by simp [results, Tryz.results171, go_sem]; rfl) rfl ?_
   exact z_bH (args := []) (z_ab _ _ _) (Nat.le_refl _) (StrsAt.nil _ _ _ _) HN.out (Nat.zero_le _)
  | false =>
   have HN : Hid (z_af ((14 : Nat) : Int) [x] = none) := by show pPatch [x] = _; rw [pPatch, if_neg (by rw [hn]; exact Bool.noConfusion)]
   go_enter Tryz.func171, Tryz.ntmps171
   go_wp2_with (go_at_call 140; refine (z_a x _ (by omega)).mono ?_; rintro e wx ⟨rfl, rfl⟩; rw [hn])
   refine bodyPost_ret (v := .tuple #[.agg #[.int .i64 _, .string ⟨#[]⟩, .string ⟨#[]⟩, .slice none 0 0, .string ⟨#[]⟩], .bool false]) (by simp [results, Tryz.results171, go_sem]; rfl) rfl ?_
   exact z_aH (args := []) (z_ab _ _ _) (Nat.le_refl _) (StrsAt.nil _ _ _ _) HN.out (Nat.zero_le _)
 ·have HN : Hid (z_af ((14 : Nat) : Int) ws = none) := by
   show pPatch ws = _
   match ws, h1 with
   | [], _ => rfl
   | [x], h => exact absurd rfl h
   | _ :: _ :: _, _ => rfl
  have h0 : ((ws.length : Int) != 1) = true := by simp; omega
  clear hi hz h1
  go_enter Tryz.func171, Tryz.ntmps171
  go_wp2
  refine bodyPost_ret (v := .tuple #[.agg #[.int .i64 _, .string ⟨#[]⟩, .string ⟨#[]⟩, .slice none 0 0, .string ⟨#[]⟩], .bool false]) (by simp [results, Tryz.results171, go_sem]; rfl) rfl ?_
  exact z_aH (args := []) (z_ab _ _ _) (Nat.le_refl _) (StrsAt.nil _ _ _ _) HN.out (Nat.zero_le _)
theorem z_jC (ao : Option Addr) (c : Nat) (ws : List ByteArray) (w : World) (hl : ws.length ≤ 4398046511000) (hc : ws.length ≤ c) (hz : ∀ s ∈ ws, s.size ≤ 9223372036854775807) (hi : StrsAt 0 w.heap.size w ao ws) :
  Calls Tryz.prog 171 #[.int .i64 (15 : Nat), .slice ao ws.length c] w (z_bg w (15 : Nat) ws) := by
 have HI : Hid (StrsAt 0 w.heap.size w ao ws) := hi
 have HZ : Hid (∀ s ∈ ws, s.size ≤ 9223372036854775807) := hz
 have HC : Hid (ws.length ≤ c) := hc
 clear hi hz
 by_cases h3 : ws.length ≤ 3
 ·have h0 : decide ((ws.length : Int) ≤ 3) = true := by simp; omega
  cases ha : allB z_an ws with
  | true =>
   have HN : Hid (z_af ((15 : Nat) : Int) ws = some ⟨eS, eS, ws, eS⟩) := by show pNext ws = _; rw [pNext, if_pos ⟨h3, ha⟩]
   go_enter Tryz.func171, Tryz.ntmps171
   go_wp2_with fail
   go_region_with (go_at_call 197; refine (z_aU ao c ws w.heap.size _ (by omega) HZ.out (HI.out.below (z_ab _ _ _).drew)).mono ?_; rintro e wx ⟨rfl, rfl⟩; rw [ha])
   all_goals
    go_wp2_with fail
    refine bodyPost_ret (v := .tuple #[.agg #[.int .i64 _, .string ⟨#[]⟩, .string ⟨#[]⟩, .slice ao ws.length c, .string ⟨#[]⟩], .bool true]) (by simp [results, Tryz.results171, go_sem]; rfl) rfl ?_
    exact z_bH (z_ab _ _ _).drew HC.out (HI.out.later (z_ab _ _ _).drew) HN.out (Nat.le_refl _)
  | false =>
   have HN : Hid (z_af ((15 : Nat) : Int) ws = none) := by show pNext ws = _; rw [pNext, if_neg (fun h => by rw [ha] at h; exact Bool.noConfusion h.2)]
   go_enter Tryz.func171, Tryz.ntmps171
   go_wp2_with fail
   go_region_with (go_at_call 197; refine (z_aU ao c ws w.heap.size _ (by omega) HZ.out (HI.out.below (z_ab _ _ _).drew)).mono ?_; rintro e wx ⟨rfl, rfl⟩; rw [ha])
   all_goals
    go_wp2_with fail
    refine bodyPost_ret (v := .tuple #[.agg #[.int .i64 _, .string ⟨#[]⟩, .string ⟨#[]⟩, .slice ao ws.length c, .string ⟨#[]⟩], .bool false]) (by simp [results, Tryz.results171, go_sem]; rfl) rfl ?_
    exact z_aH (z_ab _ _ _).drew HC.out (HI.out.later (z_ab _ _ _).drew) HN.out (Nat.le_refl _)
 ·have h0 : decide ((ws.length : Int) ≤ 3) = false := by simp; omega
  have HN : Hid (z_af ((15 : Nat) : Int) ws = none) := by show pNext ws = _; rw [pNext, if_neg (fun h => h3 h.1)]
  go_enter Tryz.func171, Tryz.ntmps171
  go_wp2_with fail
  go_region
  all_goals
   go_wp2_with fail
   refine bodyPost_ret (v := .tuple #[.agg #[.int .i64 _, .string ⟨#[]⟩, .string ⟨#[]⟩, .slice ao ws.length c, .string ⟨#[]⟩], .bool false]) (by simp [results, Tryz.results171, go_sem]; rfl) rfl ?_
   exact z_aH (z_ab _ _ _).drew HC.out (HI.out.later (z_ab _ _ _).drew) HN.out (Nat.le_refl _)
end
section
open Go.RowKit
theorem z_n9 {ws : List ByteArray} (h : ws.length = 2) : ∃ a b, ws = [a, b] := by
 match ws, h with
 | [a, b], _ => exact ⟨a, b, rfl⟩
theorem z_nb {ws : List ByteArray} (h : ws.length = 4) : ∃ a b c d, ws = [a, b, c, d] := by
 match ws, h with
 | [a, b, c, d], _ => exact ⟨a, b, c, d, rfl⟩
theorem z_fK (ao : Option Addr) (c : Nat) (ws : List ByteArray) (w : World) (hl : ws.length ≤ 4398046511000) (h2 : ws.length ≠ 2) (h4 : ws.length ≠ 4) :
  Calls Tryz.prog 171 #[.int .i64 (5 : Nat), .slice ao ws.length c] w (z_bg w (5 : Nat) ws) := by
 have HN : Hid (z_af ((5 : Nat) : Int) ws = none) := by
  show pGet ws = _
  match ws, h2, h4 with
  | [], _, _ => rfl
  | [_], _, _ => rfl
  | [_, _], h, _ => exact absurd rfl h
  | [_, _, _], _, _ => rfl
  | [_, _, _, _], _, h => exact absurd rfl h
  | _ :: _ :: _ :: _ :: _ :: _, _, _ => rfl
 have b2 : ((ws.length : Int) != 2) = true := by simp; omega
 have b4 : ((ws.length : Int) != 4) = true := by simp; omega
 clear h2 h4
 go_enter Tryz.func171, Tryz.ntmps171
 go_wp2
 refine bodyPost_ret (v := .tuple #[.agg #[.int .i64 _, .string ⟨#[]⟩, .string ⟨#[]⟩, .slice none 0 0, .string ⟨#[]⟩], .bool false]) (by simp [results, Tryz.results171, go_sem]; rfl) rfl ?_
 exact z_aH (args := []) (z_ab _ _ _) (Nat.le_refl _) (StrsAt.nil _ _ _ _) HN.out (Nat.zero_le _)
theorem z_gx (g off c : Nat) (a b : ByteArray) (w : World) (hc : 2 ≤ c) (hz : ∀ s ∈ [a, b], s.size ≤ 4398046511104) (hi : StrsAt 0 w.heap.size w (some ⟨g, off, none⟩) [a, b]) (ha : z_ac a = false) :
  Calls Tryz.prog 171 #[.int .i64 (5 : Nat), .slice (some ⟨g, off, none⟩) 2 c] w (z_bg w (5 : Nat) [a, b]) := by
 have HN : Hid (z_af ((5 : Nat) : Int) [a, b] = none) := by show pGet [a, b] = _; rw [pGet]; exact if_neg (by rw [ha]; exact fun h => Bool.noConfusion h.1)
 obtain ⟨_, _, e0, hB, k0⟩ := hi.at 0 (by simp)
 cases e0
 have c0 : w.cell? ⟨g, off, none⟩ = some (.string a) := k0
 have z0 := hz a (by simp)
 obtain ⟨_, _, e1, _, k1⟩ := hi.at 1 (by simp)
 cases e1
 have c1 : w.cell? ⟨g, off + 1, none⟩ = some (.string b) := k1
 have z1 := hz b (by simp)
 have hb0 : g < w.heap.size := hB.2
 have HI : Hid (StrsAt 0 w.heap.size w (some ⟨g, off, none⟩) [a, b]) := hi
 clear hi hz k0 k1
 go_enter Tryz.func171, Tryz.ntmps171
 go_wp2_with ((go_at_call_of 140 a; refine (z_a a _ (by omega)).mono ?_; rintro e wx ⟨rfl, rfl⟩; rw [ha]))
 refine bodyPost_ret (v := .tuple #[.agg #[.int .i64 _, .string ⟨#[]⟩, .string ⟨#[]⟩, .slice none 0 0, .string ⟨#[]⟩], .bool false]) (by simp [results, Tryz.results171, go_sem]; rfl) rfl ?_
 exact z_aH (args := []) (z_ab _ _ _) (Nat.le_refl _) (StrsAt.nil _ _ _ _) HN.out (Nat.zero_le _)
theorem z_gV (g off c : Nat) (a b : ByteArray) (w : World) (hc : 2 ≤ c) (hz : ∀ s ∈ [a, b], s.size ≤ 4398046511104) (hi : StrsAt 0 w.heap.size w (some ⟨g, off, none⟩) [a, b]) (ha : z_ac a = true) (hb : z_ac b = false) :
  Calls Tryz.prog 171 #[.int .i64 (5 : Nat), .slice (some ⟨g, off, none⟩) 2 c] w (z_bg w (5 : Nat) [a, b]) := by
 have HN : Hid (z_af ((5 : Nat) : Int) [a, b] = none) := by show pGet [a, b] = _; rw [pGet]; exact if_neg (by rw [hb]; exact fun h => Bool.noConfusion h.2)
 obtain ⟨_, _, e0, hB, k0⟩ := hi.at 0 (by simp)
 cases e0
 have c0 : w.cell? ⟨g, off, none⟩ = some (.string a) := k0
 have z0 := hz a (by simp)
 obtain ⟨_, _, e1, _, k1⟩ := hi.at 1 (by simp)
 cases e1
 have c1 : w.cell? ⟨g, off + 1, none⟩ = some (.string b) := k1
 have z1 := hz b (by simp)
 have hb0 : g < w.heap.size := hB.2
 have HI : Hid (StrsAt 0 w.heap.size w (some ⟨g, off, none⟩) [a, b]) := hi
 clear hi hz k0 k1
 go_enter Tryz.func171, Tryz.ntmps171
 go_wp2_with (first | (go_at_call_of 140 a; refine (z_a a _ (by omega)).mono ?_; rintro e wx ⟨rfl, rfl⟩; rw [ha]) | (go_at_call_of 140 b; refine (z_a b _ (by omega)).mono ?_; rintro e wx ⟨rfl, rfl⟩; rw [hb]))
 refine bodyPost_ret (v := .tuple #[.agg #[.int .i64 _, .string ⟨#[]⟩, .string ⟨#[]⟩, .slice none 0 0, .string ⟨#[]⟩], .bool false]) (by simp [results, Tryz.results171, go_sem]; rfl) rfl ?_
 exact z_aH (args := []) (z_ab _ _ _) (Nat.le_refl _) (StrsAt.nil _ _ _ _) HN.out (Nat.zero_le _)
theorem z_eQ (g off c : Nat) (a b : ByteArray) (w : World) (hc : 2 ≤ c) (hz : ∀ s ∈ [a, b], s.size ≤ 4398046511104) (hi : StrsAt 0 w.heap.size w (some ⟨g, off, none⟩) [a, b]) (ha : z_ac a = true) (hb : z_ac b = true) :
  Calls Tryz.prog 171 #[.int .i64 (5 : Nat), .slice (some ⟨g, off, none⟩) 2 c] w (z_bg w (5 : Nat) [a, b]) := by
 have HN : Hid (z_af ((5 : Nat) : Int) [a, b] = some ⟨a, b, [], eS⟩) := by show pGet [a, b] = _; rw [pGet]; exact if_pos (⟨ha, hb⟩)
 obtain ⟨_, _, e0, hB, k0⟩ := hi.at 0 (by simp)
 cases e0
 have c0 : w.cell? ⟨g, off, none⟩ = some (.string a) := k0
 have z0 := hz a (by simp)
 obtain ⟨_, _, e1, _, k1⟩ := hi.at 1 (by simp)
 cases e1
 have c1 : w.cell? ⟨g, off + 1, none⟩ = some (.string b) := k1
 have z1 := hz b (by simp)
 have hb0 : g < w.heap.size := hB.2
 have HI : Hid (StrsAt 0 w.heap.size w (some ⟨g, off, none⟩) [a, b]) := hi
 clear hi hz k0 k1
 go_enter Tryz.func171, Tryz.ntmps171
 go_wp2_with (first | (go_at_call_of 140 a; refine (z_a a _ (by omega)).mono ?_; rintro e wx ⟨rfl, rfl⟩; rw [ha]) | (go_at_call_of 140 b; refine (z_a b _ (by omega)).mono ?_; rintro e wx ⟨rfl, rfl⟩; rw [hb]))
 refine bodyPost_ret (v := .tuple #[.agg #[.int .i64 _, .string a, .string b, .slice none 0 0, .string ⟨#[]⟩], .bool true]) (by simp [results, Tryz.results171, go_sem]; rfl) rfl ?_
 exact z_bH (args := []) (z_ab _ _ _) (Nat.le_refl _) (StrsAt.nil _ _ _ _) HN.out (Nat.zero_le _)
theorem z_hF (g off c : Nat) (a b x d : ByteArray) (w : World) (hc : 4 ≤ c) (hz : ∀ s ∈ [a, b, x, d], s.size ≤ 4398046511104) (hi : StrsAt 0 w.heap.size w (some ⟨g, off, none⟩) [a, b, x, d]) (ha : z_ac a = false) :
  Calls Tryz.prog 171 #[.int .i64 (5 : Nat), .slice (some ⟨g, off, none⟩) 4 c] w (z_bg w (5 : Nat) [a, b, x, d]) := by
 have HN : Hid (z_af ((5 : Nat) : Int) [a, b, x, d] = none) := by show pGet [a, b, x, d] = _; rw [pGet]; exact if_neg (by rw [ha]; exact fun h => Bool.noConfusion h.1)
 obtain ⟨_, _, e0, hB, k0⟩ := hi.at 0 (by simp)
 cases e0
 have c0 : w.cell? ⟨g, off, none⟩ = some (.string a) := k0
 have z0 := hz a (by simp)
 obtain ⟨_, _, e1, _, k1⟩ := hi.at 1 (by simp)
 cases e1
 have c1 : w.cell? ⟨g, off + 1, none⟩ = some (.string b) := k1
 have z1 := hz b (by simp)
 obtain ⟨_, _, e2, _, k2⟩ := hi.at 2 (by simp)
 cases e2
 have c2 : w.cell? ⟨g, off + 2, none⟩ = some (.string x) := k2
 have z2 := hz x (by simp)
 obtain ⟨_, _, e3, _, k3⟩ := hi.at 3 (by simp)
 cases e3
 have c3 : w.cell? ⟨g, off + 3, none⟩ = some (.string d) := k3
 have z3 := hz d (by simp)
 have hb0 : g < w.heap.size := hB.2
 have HI : Hid (StrsAt 0 w.heap.size w (some ⟨g, off, none⟩) [a, b, x, d]) := hi
 clear hi hz k0 k1 k2 k3
 go_enter Tryz.func171, Tryz.ntmps171
 go_wp2_with ((go_at_call_of 140 a; refine (z_a a _ (by omega)).mono ?_; rintro e wx ⟨rfl, rfl⟩; rw [ha]))
 refine bodyPost_ret (v := .tuple #[.agg #[.int .i64 _, .string ⟨#[]⟩, .string ⟨#[]⟩, .slice none 0 0, .string ⟨#[]⟩], .bool false]) (by simp [results, Tryz.results171, go_sem]; rfl) rfl ?_
 exact z_aH (args := []) (z_ab _ _ _) (Nat.le_refl _) (StrsAt.nil _ _ _ _) HN.out (Nat.zero_le _)
theorem z_gX (g off c : Nat) (a b x d : ByteArray) (w : World) (hc : 4 ≤ c) (hz : ∀ s ∈ [a, b, x, d], s.size ≤ 4398046511104) (hi : StrsAt 0 w.heap.size w (some ⟨g, off, none⟩) [a, b, x, d]) (ha : z_ac a = true) (hb : z_ac b = false) :
  Calls Tryz.prog 171 #[.int .i64 (5 : Nat), .slice (some ⟨g, off, none⟩) 4 c] w (z_bg w (5 : Nat) [a, b, x, d]) := by
 have HN : Hid (z_af ((5 : Nat) : Int) [a, b, x, d] = none) := by show pGet [a, b, x, d] = _; rw [pGet]; exact if_neg (by rw [hb]; exact fun h => Bool.noConfusion h.2.1)
 obtain ⟨_, _, e0, hB, k0⟩ := hi.at 0 (by simp)
 cases e0
 have c0 : w.cell? ⟨g, off, none⟩ = some (.string a) := k0
 have z0 := hz a (by simp)
 obtain ⟨_, _, e1, _, k1⟩ := hi.at 1 (by simp)
 cases e1
 have c1 : w.cell? ⟨g, off + 1, none⟩ = some (.string b) := k1
 have z1 := hz b (by simp)
 obtain ⟨_, _, e2, _, k2⟩ := hi.at 2 (by simp)
 cases e2
 have c2 : w.cell? ⟨g, off + 2, none⟩ = some (.string x) := k2
 have z2 := hz x (by simp)
 obtain ⟨_, _, e3, _, k3⟩ := hi.at 3 (by simp)
 cases e3
 have c3 : w.cell? ⟨g, off + 3, none⟩ = some (.string d) := k3
 have z3 := hz d (by simp)
 have hb0 : g < w.heap.size := hB.2
 have HI : Hid (StrsAt 0 w.heap.size w (some ⟨g, off, none⟩) [a, b, x, d]) := hi
 clear hi hz k0 k1 k2 k3
 go_enter Tryz.func171, Tryz.ntmps171
 go_wp2_with (first | (go_at_call_of 140 a; refine (z_a a _ (by omega)).mono ?_; rintro e wx ⟨rfl, rfl⟩; rw [ha]) | (go_at_call_of 140 b; refine (z_a b _ (by omega)).mono ?_; rintro e wx ⟨rfl, rfl⟩; rw [hb]))
 refine bodyPost_ret (v := .tuple #[.agg #[.int .i64 _, .string ⟨#[]⟩, .string ⟨#[]⟩, .slice none 0 0, .string ⟨#[]⟩], .bool false]) (by simp [results, Tryz.results171, go_sem]; rfl) rfl ?_
 exact z_aH (args := []) (z_ab _ _ _) (Nat.le_refl _) (StrsAt.nil _ _ _ _) HN.out (Nat.zero_le _)
theorem z_gJ (g off c : Nat) (a b x d : ByteArray) (w : World) (hc : 4 ≤ c) (hz : ∀ s ∈ [a, b, x, d], s.size ≤ 4398046511104) (hi : StrsAt 0 w.heap.size w (some ⟨g, off, none⟩) [a, b, x, d]) (ha : z_ac a = true) (hb : z_ac b = true) (hx : (x.toList == [102, 111, 114]) = false) :
  Calls Tryz.prog 171 #[.int .i64 (5 : Nat), .slice (some ⟨g, off, none⟩) 4 c] w (z_bg w (5 : Nat) [a, b, x, d]) := by
 have HN : Hid (z_af ((5 : Nat) : Int) [a, b, x, d] = none) := by show pGet [a, b, x, d] = _; rw [pGet]; exact if_neg (by rw [hx]; exact fun h => Bool.noConfusion h.2.2.1)
 have hx2 : (x.toList != [102, 111, 114]) = true := by rw [bne, hx]; rfl
 obtain ⟨_, _, e0, hB, k0⟩ := hi.at 0 (by simp)
 cases e0
 have c0 : w.cell? ⟨g, off, none⟩ = some (.string a) := k0
 have z0 := hz a (by simp)
 obtain ⟨_, _, e1, _, k1⟩ := hi.at 1 (by simp)
 cases e1
 have c1 : w.cell? ⟨g, off + 1, none⟩ = some (.string b) := k1
 have z1 := hz b (by simp)
 obtain ⟨_, _, e2, _, k2⟩ := hi.at 2 (by simp)
 cases e2
 have c2 : w.cell? ⟨g, off + 2, none⟩ = some (.string x) := k2
 have z2 := hz x (by simp)
 obtain ⟨_, _, e3, _, k3⟩ := hi.at 3 (by simp)
 cases e3
 have c3 : w.cell? ⟨g, off + 3, none⟩ = some (.string d) := k3
 have z3 := hz d (by simp)
 have hb0 : g < w.heap.size := hB.2
 have HI : Hid (StrsAt 0 w.heap.size w (some ⟨g, off, none⟩) [a, b, x, d]) := hi
 clear hi hz k0 k1 k2 k3
 go_enter Tryz.func171, Tryz.ntmps171
 go_wp2_with (first | (go_at_call_of 140 a; refine (z_a a _ (by omega)).mono ?_; rintro e wx ⟨rfl, rfl⟩; rw [ha]) | (go_at_call_of 140 b; refine (z_a b _ (by omega)).mono ?_; rintro e wx ⟨rfl, rfl⟩; rw [hb]))
 refine bodyPost_ret (v := .tuple #[.agg #[.int .i64 _, .string ⟨#[]⟩, .string ⟨#[]⟩, .slice none 0 0, .string ⟨#[]⟩], .bool false]) (by simp [results, Tryz.results171, go_sem]; rfl) rfl ?_
 exact z_aH (args := []) (z_ab _ _ _) (Nat.le_refl _) (StrsAt.nil _ _ _ _) HN.out (Nat.zero_le _)
theorem z_hd (g off c : Nat) (a b x d : ByteArray) (w : World) (hc : 4 ≤ c) (hz : ∀ s ∈ [a, b, x, d], s.size ≤ 4398046511104) (hi : StrsAt 0 w.heap.size w (some ⟨g, off, none⟩) [a, b, x, d]) (ha : z_ac a = true) (hb : z_ac b = true) (hx : (x.toList == [102, 111, 114]) = true) (hd : z_an d = false) :
  Calls Tryz.prog 171 #[.int .i64 (5 : Nat), .slice (some ⟨g, off, none⟩) 4 c] w (z_bg w (5 : Nat) [a, b, x, d]) := by
 have HN : Hid (z_af ((5 : Nat) : Int) [a, b, x, d] = none) := by show pGet [a, b, x, d] = _; rw [pGet]; exact if_neg (by rw [hd]; exact fun h => Bool.noConfusion h.2.2.2)
 have hx2 : (x.toList != [102, 111, 114]) = false := by rw [bne, hx]; rfl
 obtain ⟨_, _, e0, hB, k0⟩ := hi.at 0 (by simp)
 cases e0
 have c0 : w.cell? ⟨g, off, none⟩ = some (.string a) := k0
 have z0 := hz a (by simp)
 obtain ⟨_, _, e1, _, k1⟩ := hi.at 1 (by simp)
 cases e1
 have c1 : w.cell? ⟨g, off + 1, none⟩ = some (.string b) := k1
 have z1 := hz b (by simp)
 obtain ⟨_, _, e2, _, k2⟩ := hi.at 2 (by simp)
 cases e2
 have c2 : w.cell? ⟨g, off + 2, none⟩ = some (.string x) := k2
 have z2 := hz x (by simp)
 obtain ⟨_, _, e3, _, k3⟩ := hi.at 3 (by simp)
 cases e3
 have c3 : w.cell? ⟨g, off + 3, none⟩ = some (.string d) := k3
 have z3 := hz d (by simp)
 have hb0 : g < w.heap.size := hB.2
 have HI : Hid (StrsAt 0 w.heap.size w (some ⟨g, off, none⟩) [a, b, x, d]) := hi
 clear hi hz k0 k1 k2 k3
 go_enter Tryz.func171, Tryz.ntmps171
 go_wp2_with (first | (go_at_call_of 140 a; refine (z_a a _ (by omega)).mono ?_; rintro e wx ⟨rfl, rfl⟩; rw [ha]) | (go_at_call_of 140 b; refine (z_a b _ (by omega)).mono ?_; rintro e wx ⟨rfl, rfl⟩; rw [hb]) | (go_at_call_of 199 d; refine (z_aK d _ (by omega)).mono ?_; rintro e wx ⟨rfl, rfl⟩; rw [hd]))
 refine bodyPost_ret (v := .tuple #[.agg #[.int .i64 _, .string ⟨#[]⟩, .string ⟨#[]⟩, .slice none 0 0, .string ⟨#[]⟩], .bool false]) (by simp [results, Tryz.results171, go_sem]; rfl) rfl ?_
 exact z_aH (args := []) (z_ab _ _ _) (Nat.le_refl _) (StrsAt.nil _ _ _ _) HN.out (Nat.zero_le _)
theorem z_fF (g off c : Nat) (a b x d : ByteArray) (w : World) (hc : 4 ≤ c) (hz : ∀ s ∈ [a, b, x, d], s.size ≤ 4398046511104) (hi : StrsAt 0 w.heap.size w (some ⟨g, off, none⟩) [a, b, x, d]) (ha : z_ac a = true) (hb : z_ac b = true) (hx : (x.toList == [102, 111, 114]) = true) (hd : z_an d = true) :
  Calls Tryz.prog 171 #[.int .i64 (5 : Nat), .slice (some ⟨g, off, none⟩) 4 c] w (z_bg w (5 : Nat) [a, b, x, d]) := by
 have HN : Hid (z_af ((5 : Nat) : Int) [a, b, x, d] = some ⟨a, b, [d], eS⟩) := by show pGet [a, b, x, d] = _; rw [pGet]; exact if_pos (⟨ha, hb, hx, hd⟩)
 have hx2 : (x.toList != [102, 111, 114]) = false := by rw [bne, hx]; rfl
 have HD : Hid (StrsAt 0 w.heap.size w (some ⟨g, off + 3, none⟩) [d]) := hi.drop 3
 obtain ⟨_, _, e0, hB, k0⟩ := hi.at 0 (by simp)
 cases e0
 have c0 : w.cell? ⟨g, off, none⟩ = some (.string a) := k0
 have z0 := hz a (by simp)
 obtain ⟨_, _, e1, _, k1⟩ := hi.at 1 (by simp)
 cases e1
 have c1 : w.cell? ⟨g, off + 1, none⟩ = some (.string b) := k1
 have z1 := hz b (by simp)
 obtain ⟨_, _, e2, _, k2⟩ := hi.at 2 (by simp)
 cases e2
 have c2 : w.cell? ⟨g, off + 2, none⟩ = some (.string x) := k2
 have z2 := hz x (by simp)
 obtain ⟨_, _, e3, _, k3⟩ := hi.at 3 (by simp)
 cases e3
 have c3 : w.cell? ⟨g, off + 3, none⟩ = some (.string d) := k3
 have z3 := hz d (by simp)
 have hb0 : g < w.heap.size := hB.2
 have HI : Hid (StrsAt 0 w.heap.size w (some ⟨g, off, none⟩) [a, b, x, d]) := hi
 clear hi hz k0 k1 k2 k3
 have hc3 : ¬ c = 3 := by omega
 go_enter Tryz.func171, Tryz.ntmps171
 go_wp2_with (first | (go_at_call_of 140 a; refine (z_a a _ (by omega)).mono ?_; rintro e wx ⟨rfl, rfl⟩; rw [ha]) | (go_at_call_of 140 b; refine (z_a b _ (by omega)).mono ?_; rintro e wx ⟨rfl, rfl⟩; rw [hb]) | (go_at_call_of 199 d; refine (z_aK d _ (by omega)).mono ?_; rintro e wx ⟨rfl, rfl⟩; rw [hd]))
 refine bodyPost_ret (v := .tuple #[.agg #[.int .i64 _, .string a, .string b, .slice (some ⟨g, off + 3, none⟩) 1 (c - 3), .string ⟨#[]⟩], .bool true]) (by simp [results, Tryz.results171, go_sem]; rfl) rfl ?_
 exact z_bH (args := [d]) (z_ab _ _ _) (by simp; omega) (HD.out.later (z_ab _ _ _)) HN.out (by simp)
theorem z_kM (ao : Option Addr) (c : Nat) (ws : List ByteArray) (w : World) (hl : ws.length ≤ 4398046511000) (hc : ws.length ≤ c) (hz : ∀ s ∈ ws, s.size ≤ 4398046511104) (hi : StrsAt 0 w.heap.size w ao ws) :
  Calls Tryz.prog 171 #[.int .i64 (5 : Nat), .slice ao ws.length c] w (z_bg w (5 : Nat) ws) := by
 by_cases h2 : ws.length = 2
 ·obtain ⟨a, b, rfl⟩ := z_n9 h2
  obtain ⟨g, off, rfl, _⟩ := hi.at 0 (by simp)
  cases ha : z_ac a with
  | false => exact z_gx g off c a b w hc hz hi ha
  | true =>
   cases hb : z_ac b with
   | false => exact z_gV g off c a b w hc hz hi ha hb
   | true => exact z_eQ g off c a b w hc hz hi ha hb
 by_cases h4 : ws.length = 4
 ·obtain ⟨a, b, x, d, rfl⟩ := z_nb h4
  obtain ⟨g, off, rfl, _⟩ := hi.at 0 (by simp)
  cases ha : z_ac a with
  | false => exact z_hF g off c a b x d w hc hz hi ha
  | true =>
   cases hb : z_ac b with
   | false => exact z_gX g off c a b x d w hc hz hi ha hb
   | true =>
    cases hx : (x.toList == [102, 111, 114]) with
    | false => exact z_gJ g off c a b x d w hc hz hi ha hb hx
    | true =>
     cases hd : z_an d with
     | false => exact z_hd g off c a b x d w hc hz hi ha hb hx hd
     | true => exact z_fF g off c a b x d w hc hz hi ha hb hx hd
 ·exact z_fK ao c ws w hl h2 h4
end
end Go.Proofs.YtlbjjbolbopfmaaGreatDoor
