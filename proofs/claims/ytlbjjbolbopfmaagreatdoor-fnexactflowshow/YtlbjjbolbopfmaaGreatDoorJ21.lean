import Derived.Test.YtlbjjbolbopfmaaGreatDoorJ17
import Derived.Deep.RegionWith
import Derived.Deep.CutRange
import Derived.Deep.CutBlock
import Derived.Test.YtlbjjbolbopfmaaGreatDoorJ12
import Derived.Test.YtlbjjbolbopfmaaGreatDoorJ03
import Derived.Test.YtlbjjbolbopfmaaGreatDoorJ02
namespace Go.Proofs.YtlbjjbolbopfmaaGreatDoor
set_option maxHeartbeats 4000000
set_option maxRecDepth 1000000
set_option linter.unusedVariables false
section
open Go.RowKit
theorem z_d3 {A B g g' k : Nat} {w : World} (h : StrsAt A B w (some ⟨g, 0, none⟩) kindsS) (hg : g' = g) (h1 : 1 ≤ k) (h2 : k < 16) {K : ByteArray} (hK : z_a3 (k : Int) = K) : w.cell? ⟨g', k, none⟩ = some (.string K) := by
 subst hg hK
 obtain ⟨b, off, e, _, hc⟩ := h k h2
 cases e
 rw [Nat.zero_add, z_fg k h1 h2] at hc
 exact hc
theorem z_gB {w w1 : World} {a b c d e : Value} {t : TypeId} (h : Below (w.alloc (.cells #[a, b, c, d, e] t)).drew.heap.size (w.alloc (.cells #[a, b, c, d, e] t)).drew w1) :
  Aside (Below w.heap.size w w1) ∧ w1.cell? ⟨w.heap.size, 0, none⟩ = some a ∧ w1.cell? ⟨w.heap.size, 1, none⟩ = some b ∧ w1.cell? ⟨w.heap.size, 2, none⟩ = some c ∧ w1.cell? ⟨w.heap.size, 3, none⟩ = some d ∧ w1.cell? ⟨w.heap.size, 4, none⟩ = some e := by
 have hs : (w.alloc (.cells #[a, b, c, d, e] t)).drew.heap.size = w.heap.size + 1 := by simp
 have h2 := (((Below.refl w.heap.size w).alloc (Nat.le_refl _) (.cells #[a, b, c, d, e] t)).drew).trans (h.mono (by omega))
 have hc := fun j => h.cell (p := ⟨w.heap.size, j, none⟩) (by rw [hs]; exact Nat.lt_succ_self _)
 exact ⟨h2, (hc 0).trans (by simp), (hc 1).trans (by simp), (hc 2).trans (by simp), (hc 3).trans (by simp), (hc 4).trans (by simp)⟩
theorem z_bT (a b : ByteArray) : (a ++ b).size = a.size + b.size := ByteArray.size_append
theorem z_dK (k : Nat) (d : Bd) (ao : Option Addr) (c : Nat) (w : World) (hk : k = 6 ∨ k = 8) (hl : d.args.length = 2) (hc : d.args.length ≤ c)
  (hz2 : d.name.size ≤ 1048576) (hz4 : ∀ s ∈ d.args, s.size ≤ 1048576) (hi : StrsAt 0 w.heap.size w ao d.args) :
  Calls Tryz.prog 136 #[.agg #[.int .i64 k, .string d.to, .string d.name, .slice ao d.args.length c, .string d.undo]] w fun e w' => ∃ t : ByteArray, e = .returned (.string t) ∧ Below w.heap.size w w' ∧ wordsW t = z_a6 (outW (k : Int) d) ∧ t.size ≤ 4398046510000 := by
 obtain ⟨b, off, rfl, hB, x0⟩ := hi.at 0 (by omega)
 obtain ⟨b', off', e, _, x1⟩ := hi.at 1 (by omega)
 cases e
 have HX : Hid (w.cell? ⟨b, off, none⟩ = some (.string d.args[0]) ∧ w.cell? ⟨b, off + 1, none⟩ = some (.string d.args[1])) := ⟨by simpa using x0, x1⟩
 have hbb : b < w.heap.size := hB.2
 obtain ⟨K, HKK⟩ : ∃ K, Hid (z_a3 (k : Int) = K) := ⟨_, rfl⟩
 have hwk : K.size ≤ 8 := by rw [← HKK.out]; exact z_cF (k : Int)
 have z0 := hz4 _ (List.getElem_mem (l := d.args) (n := 0) (by omega))
 have z1 := hz4 _ (List.getElem_mem (l := d.args) (n := 1) (by omega))
 have f1 : ¬ 9223372036854775807 < K.size + 1 := by omega
 have f2 : ¬ 9223372036854775807 < K.size + 1 + d.args[0].size := by omega
 have f3 : ¬ 9223372036854775807 < K.size + 1 + d.args[0].size + 1 := by omega
 have f4 : ¬ 9223372036854775807 < K.size + 1 + d.args[0].size + 1 + d.name.size := by omega
 have f5 : ¬ 9223372036854775807 < K.size + 1 + d.args[0].size + 1 + d.name.size + 1 := by omega
 have f6 : ¬ 9223372036854775807 < K.size + 1 + d.args[0].size + 1 + d.name.size + 1 + d.args[1].size := by omega
 have HT : Hid (∀ t : ByteArray, t = ((((((K ++ spB) ++ d.args[0]) ++ spB) ++ d.name) ++ spB) ++ d.args[1]) → wordsW t = z_a6 (outW (k : Int) d) ∧ t.size ≤ 4398046510000) := by
  rintro t rfl
  rw [← HKK.out]
  have e0 : d.args.getD 0 eS = d.args[0] := by simp [List.getD, hl]
  have e1 : d.args.getD 1 eS = d.args[1] := by simp [List.getD, hl]
  constructor
  ·rw [z_io (by rcases hk with rfl | rfl <;> rfl), z_aQ, z_aQ, z_aQ, e0, e1]
   simp only [List.append_assoc]
  ·simp only [z_bT]
   have hwk2 := z_cF (k : Int)
   have h0 := hz4 _ (List.getElem_mem (l := d.args) (n := 0) (by omega))
   have h1 := hz4 _ (List.getElem_mem (l := d.args) (n := 1) (by omega))
   have hs : spB.size = 1 := rfl
   omega
 have h1 : 1 ≤ k := by omega
 have h2 : k < 16 := by omega
 have hk16 : (k : Int) < 16 := by omega
 have hk0 : (0 : Int) ≤ k := by omega
 clear hi x0 x1 hB hwk hz4 z0 z1
 rcases hk with rfl | rfl
 all_goals
  go_enter Tryz.func136, Tryz.ntmps136
  go_wp2_with fail
  go_region_with (go_at_call 137; refine (z_b1 _).mono ?_; rintro e w1 ⟨rfl, hb1, hs1⟩; have hk1 := z_d3 (g' := w.heap.size + 1) hs1 (by simp) h1 h2 HKK.out; obtain ⟨hb2, r0, r1, r2, r3, r4⟩ := z_gB hb1; have y0 := (hb2.out.cell (p := ⟨b, off, none⟩) hbb).trans HX.out.1; have y1 := (hb2.out.cell (p := ⟨b, off + 1, none⟩) hbb).trans HX.out.2; clear hb1)
  all_goals
   go_wp2
   go_region
   go_wp2
   go_ret
   exact ⟨_, rfl, hb2.out.drew, HT.out _ rfl⟩
end
section
open Go.RowKit
def z_cA (K : ByteArray) (k : Int) (tt name : ByteArray) (args : List ByteArray) : List ByteArray := wordsW K ++ (wordsW tt ++ wordsW name) ++ (if k = 5 ∧ 0 < args.length then [forS] else [])
theorem z_j3 {k : Int} {K tt name undo : ByteArray} {args : List ByteArray} (hb : branchK k = false) (hK : z_a3 k = K) (out : ByteArray) (h : wordsW out = z_cA K k tt name args ++ z_a6 args) :
  (undo.size = 0 → wordsW out = z_a6 (outW k ⟨tt, name, args, undo⟩)) ∧ (undo.size ≠ 0 → wordsW ((out ++ ⟨#[32, 117, 110, 100, 111, 32]⟩) ++ undo) = z_a6 (outW k ⟨tt, name, args, undo⟩)) := by
 rw [z_kN hb, hK]
 refine ⟨fun hu => ?_, fun hu => ?_⟩
 ·rw [h, if_pos hu, List.append_nil]; rfl
 ·rw [z_fR, h, if_neg hu]; rfl
theorem z_hR {args : List ByteArray} {n : Nat} (h : n < args.length) {out : ByteArray} {P : List ByteArray} (ho : wordsW out = P ++ z_a6 (args.take n)) : wordsW ((out ++ spB) ++ args[n]) = P ++ z_a6 (args.take (n + 1)) := by
 rw [z_aQ, ho, List.take_succ_eq_append_getElem h, z_dT, z_bj, z_cJ, List.append_nil, List.append_assoc]
theorem z_ct {x : ByteArray} (h : x.size ≠ 0) : x.toList.isEmpty = false ∧ (x.toList == []) = false := by
 have hq : x.toList.isEmpty = false := by rw [z_av]; simpa using h
 exact ⟨hq, by rw [← hq]; cases x.toList <;> rfl⟩
theorem z_k4  (tt nm undo : ByteArray) (args : List ByteArray) (ao : Option Addr) (c : Nat) (w : World) (hl : args.length ≤ 1048576) (hc : args.length ≤ c)
  (hz1 : tt.size ≤ 1048576) (hz2 : nm.size ≤ 1048576) (hz3 : undo.size ≤ 1048576) (hz4 : ∀ s ∈ args, s.size ≤ 1048576) (hi : StrsAt 0 w.heap.size w ao args) :
  Calls Tryz.prog 136 #[.agg #[.int .i64 5, .string tt, .string nm, .slice ao args.length c, .string undo]] w fun e w' => ∃ t : ByteArray, e = .returned (.string t) ∧ Below w.heap.size w w' ∧ wordsW t = z_a6 (outW 5 ⟨tt, nm, args, undo⟩) ∧ t.size ≤ 4398046510000 := by
 have HI : Hid (StrsAt 0 w.heap.size w ao args) := hi
 have HZ : Hid (∀ s ∈ args, s.size ≤ 1048576) := hz4
 obtain ⟨K, HKK⟩ : ∃ K, Hid (z_a3 5 = K) := ⟨_, rfl⟩
 have hwk : K.size ≤ 8 := by rw [← HKK.out]; exact z_cF 5
 have h1 : 1 ≤ 5 := by omega
 have h2 : 5 < 16 := by omega
 have hbr : branchK (5 : Int) = false := by decide
 have HE : Hid (∀ out, wordsW out = z_cA K 5 tt nm args ++ z_a6 args → (undo.size = 0 → wordsW out = z_a6 (outW 5 ⟨tt, nm, args, undo⟩)) ∧ (undo.size ≠ 0 → wordsW ((out ++ ⟨#[32, 117, 110, 100, 111, 32]⟩) ++ undo) = z_a6 (outW 5 ⟨tt, nm, args, undo⟩))) := fun out h => z_j3 hbr HKK.out out h
 clear hi hz4 hbr
 go_enter Tryz.func136, Tryz.ntmps136
 go_wp2_with fail
 go_cut [3] from 5 to 9 (fun v wx => v = .string K ∧ Hid (Below w.heap.size w wx) ∧ wx.cell? ⟨w.heap.size, 0, none⟩ = some (.int .i64 5) ∧ wx.cell? ⟨w.heap.size, 1, none⟩ = some (.string tt) ∧ wx.cell? ⟨w.heap.size, 2, none⟩ = some (.string nm) ∧ wx.cell? ⟨w.heap.size, 3, none⟩ = some (.slice ao args.length c) ∧ wx.cell? ⟨w.heap.size, 4, none⟩ = some (.string undo))
 case first =>
  go_region_with (go_at_call 137; refine (z_b1 _).mono ?_; rintro e w1 ⟨rfl, hb1, hs1⟩; have hk1 := z_d3 (k := 5) (g' := w.heap.size + 1) hs1 (by simp) h1 h2 HKK.out; obtain ⟨hb2, r0, r1, r2, r3, r4⟩ := z_gB hb1; clear hb1)
  all_goals
   go_wp2_with fail
   go_meet
   case rel => exact ⟨rfl, hb2.out, r0, r1, r2, r3, r4⟩
 case rest =>
  obtain ⟨rfl, HB, r0, r1, r2, r3, r4⟩ := hcut
  have HB0 : Hid (Below w.heap.size w wc) := HB
  go_upto_block 0 with fail
  go_cut [3] from 12 to 64 (fun v wx => ∃ O : ByteArray, v = .string O ∧ wx = wc ∧ O.size ≤ 2100000 ∧ Hid (wordsW O = z_cA K 5 tt nm args))
  case first =>
   by_cases ha : args.length = 0
   ·have f1 : ¬ 9223372036854775807 < K.size + 1 := by omega
    have f2 : ¬ 9223372036854775807 < K.size + 1 + tt.size := by omega
    have f3 : ¬ 9223372036854775807 < K.size + 1 + tt.size + 1 := by omega
    have f4 : ¬ 9223372036854775807 < K.size + 1 + tt.size + 1 + nm.size := by omega
    have HW : Hid (wordsW ((((K ++ spB) ++ tt) ++ spB) ++ nm) = z_cA K 5 tt nm args) := by
     show _ = _
     rw [z_aQ, z_aQ, z_cA, if_neg (by omega), List.append_nil, List.append_assoc]
    have HL : Hid ((((((K ++ spB) ++ tt) ++ spB) ++ nm)).size ≤ 2100000) := by
     show _ ≤ _; simp only [z_bT]; have hs : spB.size = 1 := rfl; omega
    go_wp2
    go_meet
    case rel => exact ⟨_, rfl, rfl, HL.out, HW⟩
   ·have hn : 0 < args.length := by omega
    have f1 : ¬ 9223372036854775807 < K.size + 1 := by omega
    have f2 : ¬ 9223372036854775807 < K.size + 1 + tt.size := by omega
    have f3 : ¬ 9223372036854775807 < K.size + 1 + tt.size + 1 := by omega
    have f4 : ¬ 9223372036854775807 < K.size + 1 + tt.size + 1 + nm.size := by omega
    have f5 : ¬ 9223372036854775807 < K.size + 1 + tt.size + 1 + nm.size + 4 := by omega
    have HW : Hid (wordsW (((((K ++ spB) ++ tt) ++ spB) ++ nm) ++ ⟨#[32, 102, 111, 114]⟩) = z_cA K 5 tt nm args) := by
     show _ = _
     rw [z_hj, z_aQ, z_aQ, z_cA, if_pos ⟨rfl, hn⟩, List.append_assoc (wordsW K)]
    have HL : Hid ((((((K ++ spB) ++ tt) ++ spB) ++ nm) ++ ⟨#[32, 102, 111, 114]⟩).size ≤ 2100000) := by
     show _ ≤ _; simp only [z_bT]; have hs : spB.size = 1 := rfl; have hs4 : (⟨#[32, 102, 111, 114]⟩ : ByteArray).size = 4 := rfl; omega
    go_wp2
    go_meet
    case rel => exact ⟨_, rfl, rfl, HL.out, HW⟩
  case rest =>
   obtain ⟨O, rfl, rfl, hO, HO⟩ := hcut
   go_wp2_with fail
   go_loop [3, 4] (fun v ix => ∃ (n : Nat) (out : ByteArray), n ≤ args.length ∧ v = .string out ∧ ix = .int .i64 n ∧ Hid (wordsW out = z_cA K 5 tt nm args ++ z_a6 (args.take n)) ∧ out.size ≤ 2100000 + n * 1048577) (fun _ ix => args.length - (intOf ix).toNat)
   case atStart => exact ⟨0, O, Nat.zero_le _, rfl, rfl, by rw [List.take_zero, z_cJ, List.append_nil]; exact HO, by omega⟩
   case round =>
    obtain ⟨n, out, hn, rfl, rfl, HW, hsz⟩ := hrel
    by_cases hlt : n < args.length
    ·obtain ⟨b, off, rfl, hB, hc0⟩ := HI.out.at n hlt
     have hc1 := (HB0.out.cell (p := ⟨b, off + n, none⟩) (by show b < _; omega)).trans hc0
     have hzn := HZ.out _ (List.getElem_mem hlt)
     have HN : Hid (wordsW ((out ++ spB) ++ args[n]) = z_cA K 5 tt nm args ++ z_a6 (args.take (n + 1))) := z_hR hlt HW.out
     have HLN : Hid (((out ++ spB) ++ args[n]).size ≤ 2100000 + (n + 1) * 1048577) := by
      show _ ≤ _; simp only [z_bT]; have hs : spB.size = 1 := rfl; omega
     have f1 : ¬ 9223372036854775807 < out.size + 1 := by omega
     have f2 : ¬ 9223372036854775807 < out.size + 1 + args[n].size := by omega
     clear hc0
     go_wp2
     go_round
     case rel => exact ⟨n + 1, _, by omega, rfl, by go_num, HN, HLN.out⟩
     case measure => simp [intOf]; omega
    ·have e0 : args.take n = args := List.take_of_length_le (by omega)
     have HF := HE.out out (by rw [HW.out, e0])
     have HF0 : Hid (undo.size = 0 → wordsW out = z_a6 (outW 5 ⟨tt, nm, args, undo⟩)) := HF.1
     have HF1 : Hid (undo.size ≠ 0 → wordsW ((out ++ ⟨#[32, 117, 110, 100, 111, 32]⟩) ++ undo) = z_a6 (outW 5 ⟨tt, nm, args, undo⟩)) := HF.2
     clear HF
     by_cases hu : undo.size = 0
     ·have hq : undo = ByteArray.empty := z_bD hu
      have HF2 : Hid (wordsW out = z_a6 (outW 5 ⟨tt, nm, args, undo⟩)) := HF0.out hu
      subst hq
      clear hu
      go_wp2
      go_ret
      exact ⟨_, rfl, HB0.out, HF2.out, by omega⟩
     ·have HF2 : Hid (wordsW ((out ++ ⟨#[32, 117, 110, 100, 111, 32]⟩) ++ undo) = z_a6 (outW 5 ⟨tt, nm, args, undo⟩)) := HF1.out hu
      obtain ⟨hq, hq2⟩ := z_ct hu
      have f1 : ¬ 9223372036854775807 < out.size + 6 := by omega
      have f2 : ¬ 9223372036854775807 < out.size + 6 + undo.size := by omega
      have HL : Hid (((out ++ ⟨#[32, 117, 110, 100, 111, 32]⟩) ++ undo).size ≤ 4398046510000) := by
       show _ ≤ _; simp only [z_bT]; have hs6 : (⟨#[32, 117, 110, 100, 111, 32]⟩ : ByteArray).size = 6 := rfl; omega
      clear hu
      go_wp2
      go_ret
      exact ⟨_, rfl, HB0.out, HF2.out, HL.out⟩
end
section
open Go.RowKit
theorem z_iQ (k : Nat) (hk1 : 1 ≤ k) (hk2 : k < 16) (hk5 : k ≠ 5) (hk6 : k ≠ 6) (hk8 : k ≠ 8) (tt nm undo : ByteArray) (args : List ByteArray) (ao : Option Addr) (c : Nat) (w : World) (hl : args.length ≤ 1048576) (hc : args.length ≤ c)
  (hz1 : tt.size ≤ 1048576) (hz2 : nm.size ≤ 1048576) (hz3 : undo.size ≤ 1048576) (hz4 : ∀ s ∈ args, s.size ≤ 1048576) (hi : StrsAt 0 w.heap.size w ao args) :
  Calls Tryz.prog 136 #[.agg #[.int .i64 (k : Int), .string tt, .string nm, .slice ao args.length c, .string undo]] w fun e w' => ∃ t : ByteArray, e = .returned (.string t) ∧ Below w.heap.size w w' ∧ wordsW t = z_a6 (outW (k : Int) ⟨tt, nm, args, undo⟩) ∧ t.size ≤ 4398046510000 := by
 have HI : Hid (StrsAt 0 w.heap.size w ao args) := hi
 have HZ : Hid (∀ s ∈ args, s.size ≤ 1048576) := hz4
 obtain ⟨K, HKK⟩ : ∃ K, Hid (z_a3 (k : Int) = K) := ⟨_, rfl⟩
 have hwk : K.size ≤ 8 := by rw [← HKK.out]; exact z_cF (k : Int)
 have h1 : 1 ≤ k := hk1
 have h2 : k < 16 := hk2
 have hk16 : (k : Int) < 16 := by omega
 have hk0 : (0 : Int) ≤ k := by omega
 have k6 : ((k : Int) == 6) = false := beq_eq_false_iff_ne.2 (by omega)
 have k8 : ((k : Int) == 8) = false := beq_eq_false_iff_ne.2 (by omega)
 have k5 : ((k : Int) == 5) = false := beq_eq_false_iff_ne.2 (by omega)
 have hbr : branchK (k : Int) = false := by unfold branchK; rw [k6, k8]; rfl
 have h5 : ¬ ((k : Int) = 5 ∧ 0 < args.length) := by omega
 have H5 : Hid (¬ ((k : Int) = 5 ∧ 0 < args.length)) := h5
 clear h5 hk5 hk6 hk8 hk1 hk2
 have HE : Hid (∀ out, wordsW out = z_cA K k tt nm args ++ z_a6 args → (undo.size = 0 → wordsW out = z_a6 (outW (k : Int) ⟨tt, nm, args, undo⟩)) ∧ (undo.size ≠ 0 → wordsW ((out ++ ⟨#[32, 117, 110, 100, 111, 32]⟩) ++ undo) = z_a6 (outW (k : Int) ⟨tt, nm, args, undo⟩))) := fun out h => z_j3 hbr HKK.out out h
 clear hi hz4 hbr
 go_enter Tryz.func136, Tryz.ntmps136
 go_wp2_with fail
 go_cut [3] from 5 to 9 (fun v wx => v = .string K ∧ Hid (Below w.heap.size w wx) ∧ wx.cell? ⟨w.heap.size, 0, none⟩ = some (.int .i64 (k : Int)) ∧ wx.cell? ⟨w.heap.size, 1, none⟩ = some (.string tt) ∧ wx.cell? ⟨w.heap.size, 2, none⟩ = some (.string nm) ∧ wx.cell? ⟨w.heap.size, 3, none⟩ = some (.slice ao args.length c) ∧ wx.cell? ⟨w.heap.size, 4, none⟩ = some (.string undo))
 case first =>
  go_region_with (go_at_call 137; refine (z_b1 _).mono ?_; rintro e w1 ⟨rfl, hb1, hs1⟩; have hk1 := z_d3 (k := k) (g' := w.heap.size + 1) hs1 (by simp) h1 h2 HKK.out; obtain ⟨hb2, r0, r1, r2, r3, r4⟩ := z_gB hb1; clear hb1)
  all_goals
   go_wp2_with fail
   go_meet
   case rel => exact ⟨rfl, hb2.out, r0, r1, r2, r3, r4⟩
 case rest =>
  obtain ⟨rfl, HB, r0, r1, r2, r3, r4⟩ := hcut
  have HB0 : Hid (Below w.heap.size w wc) := HB
  go_upto_block 0 with fail
  go_cut [3] from 12 to 64 (fun v wx => ∃ O : ByteArray, v = .string O ∧ wx = wc ∧ O.size ≤ 2100000 ∧ Hid (wordsW O = z_cA K k tt nm args))
  case first =>
   by_cases ht : tt.size = 0
   ·by_cases hn : nm.size = 0
    ·skip
     have ttw : Hid (wordsW tt = []) := z_c ht
     have ttq : tt = ByteArray.empty := z_bD ht
     have nmw : Hid (wordsW nm = []) := z_c hn
     have nmq : nm = ByteArray.empty := z_bD hn
     have HW : Hid (wordsW (K) = z_cA K k tt nm args) := by
      show _ = _
      rw [z_cA, if_neg H5.out, List.append_nil, ttw.out, nmw.out]
      simp
     have HL : Hid ((K).size ≤ 2100000) := by
      show _ ≤ _; have hs : spB.size = 1 := rfl; first | omega | (simp only [z_bT]; omega)
     subst ttq
     subst nmq
     clear ht hn
     go_wp2
     go_meet
     case rel => exact ⟨_, rfl, rfl, HL.out, HW⟩
    ·skip
     have f0 : ¬ 9223372036854775807 < K.size + 1 := by omega
     have f1 : ¬ 9223372036854775807 < K.size + 1 + nm.size := by omega
     have ttw : Hid (wordsW tt = []) := z_c ht
     have ttq : tt = ByteArray.empty := z_bD ht
     obtain ⟨nmq, nmq2⟩ := z_ct hn
     have HW : Hid (wordsW (((K ++ spB) ++ nm)) = z_cA K k tt nm args) := by
      show _ = _
      rw [z_aQ, z_cA, if_neg H5.out, List.append_nil, ttw.out]
      simp
     have HL : Hid ((((K ++ spB) ++ nm)).size ≤ 2100000) := by
      show _ ≤ _; have hs : spB.size = 1 := rfl; first | omega | (simp only [z_bT]; omega)
     subst ttq
     clear ht hn
     go_wp2
     go_meet
     case rel => exact ⟨_, rfl, rfl, HL.out, HW⟩
   ·by_cases hn : nm.size = 0
    ·skip
     have f0 : ¬ 9223372036854775807 < K.size + 1 := by omega
     have f1 : ¬ 9223372036854775807 < K.size + 1 + tt.size := by omega
     obtain ⟨ttq, ttq2⟩ := z_ct ht
     have nmw : Hid (wordsW nm = []) := z_c hn
     have nmq : nm = ByteArray.empty := z_bD hn
     have HW : Hid (wordsW (((K ++ spB) ++ tt)) = z_cA K k tt nm args) := by
      show _ = _
      rw [z_aQ, z_cA, if_neg H5.out, List.append_nil, nmw.out]
      simp
     have HL : Hid ((((K ++ spB) ++ tt)).size ≤ 2100000) := by
      show _ ≤ _; have hs : spB.size = 1 := rfl; first | omega | (simp only [z_bT]; omega)
     subst nmq
     clear ht hn
     go_wp2
     go_meet
     case rel => exact ⟨_, rfl, rfl, HL.out, HW⟩
    ·skip
     have f0 : ¬ 9223372036854775807 < K.size + 1 := by omega
     have f1 : ¬ 9223372036854775807 < K.size + 1 + tt.size := by omega
     have f2 : ¬ 9223372036854775807 < K.size + 1 + tt.size + 1 := by omega
     have f3 : ¬ 9223372036854775807 < K.size + 1 + tt.size + 1 + nm.size := by omega
     obtain ⟨ttq, ttq2⟩ := z_ct ht
     obtain ⟨nmq, nmq2⟩ := z_ct hn
     have HW : Hid (wordsW (((((K ++ spB) ++ tt) ++ spB) ++ nm)) = z_cA K k tt nm args) := by
      show _ = _
      rw [z_aQ, z_aQ, z_cA, if_neg H5.out, List.append_nil]
      simp
     have HL : Hid ((((((K ++ spB) ++ tt) ++ spB) ++ nm)).size ≤ 2100000) := by
      show _ ≤ _; have hs : spB.size = 1 := rfl; first | omega | (simp only [z_bT]; omega)
     clear ht hn
     go_wp2
     go_meet
     case rel => exact ⟨_, rfl, rfl, HL.out, HW⟩
  case rest =>
   obtain ⟨O, rfl, rfl, hO, HO⟩ := hcut
   go_wp2_with fail
   go_loop [3, 4] (fun v ix => ∃ (n : Nat) (out : ByteArray), n ≤ args.length ∧ v = .string out ∧ ix = .int .i64 n ∧ Hid (wordsW out = z_cA K k tt nm args ++ z_a6 (args.take n)) ∧ out.size ≤ 2100000 + n * 1048577) (fun _ ix => args.length - (intOf ix).toNat)
   case atStart => exact ⟨0, O, Nat.zero_le _, rfl, rfl, by rw [List.take_zero, z_cJ, List.append_nil]; exact HO, by omega⟩
   case round =>
    obtain ⟨n, out, hn, rfl, rfl, HW, hsz⟩ := hrel
    by_cases hlt : n < args.length
    ·obtain ⟨b, off, rfl, hB, hc0⟩ := HI.out.at n hlt
     have hc1 := (HB0.out.cell (p := ⟨b, off + n, none⟩) (by show b < _; omega)).trans hc0
     have hzn := HZ.out _ (List.getElem_mem hlt)
     have HN : Hid (wordsW ((out ++ spB) ++ args[n]) = z_cA K k tt nm args ++ z_a6 (args.take (n + 1))) := z_hR hlt HW.out
     have HLN : Hid (((out ++ spB) ++ args[n]).size ≤ 2100000 + (n + 1) * 1048577) := by
      show _ ≤ _; simp only [z_bT]; have hs : spB.size = 1 := rfl; omega
     have f1 : ¬ 9223372036854775807 < out.size + 1 := by omega
     have f2 : ¬ 9223372036854775807 < out.size + 1 + args[n].size := by omega
     clear hc0
     go_wp2
     go_round
     case rel => exact ⟨n + 1, _, by omega, rfl, by go_num, HN, HLN.out⟩
     case measure => simp [intOf]; omega
    ·have e0 : args.take n = args := List.take_of_length_le (by omega)
     have HF := HE.out out (by rw [HW.out, e0])
     have HF0 : Hid (undo.size = 0 → wordsW out = z_a6 (outW (k : Int) ⟨tt, nm, args, undo⟩)) := HF.1
     have HF1 : Hid (undo.size ≠ 0 → wordsW ((out ++ ⟨#[32, 117, 110, 100, 111, 32]⟩) ++ undo) = z_a6 (outW (k : Int) ⟨tt, nm, args, undo⟩)) := HF.2
     clear HF
     by_cases hu : undo.size = 0
     ·have hq : undo = ByteArray.empty := z_bD hu
      have HF2 : Hid (wordsW out = z_a6 (outW (k : Int) ⟨tt, nm, args, undo⟩)) := HF0.out hu
      subst hq
      clear hu
      go_wp2
      go_ret
      exact ⟨_, rfl, HB0.out, HF2.out, by omega⟩
     ·have HF2 : Hid (wordsW ((out ++ ⟨#[32, 117, 110, 100, 111, 32]⟩) ++ undo) = z_a6 (outW (k : Int) ⟨tt, nm, args, undo⟩)) := HF1.out hu
      obtain ⟨hq, hq2⟩ := z_ct hu
      have f1 : ¬ 9223372036854775807 < out.size + 6 := by omega
      have f2 : ¬ 9223372036854775807 < out.size + 6 + undo.size := by omega
      have HL : Hid (((out ++ ⟨#[32, 117, 110, 100, 111, 32]⟩) ++ undo).size ≤ 4398046510000) := by
       show _ ≤ _; simp only [z_bT]; have hs6 : (⟨#[32, 117, 110, 100, 111, 32]⟩ : ByteArray).size = 6 := rfl; omega
      clear hu
      go_wp2
      go_ret
      exact ⟨_, rfl, HB0.out, HF2.out, HL.out⟩
end
section
open Go.RowKit
theorem z_kB (k : Nat) (d : Bd) (ao : Option Addr) (c : Nat) (w : World) (h1 : 1 ≤ k) (h2 : k < 16) (hb : branchK (k : Int) = true → d.args.length = 2) (hl : d.args.length ≤ 1048576) (hc : d.args.length ≤ c)
  (hz1 : d.to.size ≤ 1048576) (hz2 : d.name.size ≤ 1048576) (hz3 : d.undo.size ≤ 1048576) (hz4 : ∀ s ∈ d.args, s.size ≤ 1048576) (hi : StrsAt 0 w.heap.size w ao d.args) :
  Calls Tryz.prog 136 #[.agg #[.int .i64 k, .string d.to, .string d.name, .slice ao d.args.length c, .string d.undo]] w fun e w' => ∃ t : ByteArray, e = .returned (.string t) ∧ Below w.heap.size w w' ∧ wordsW t = z_a6 (outW (k : Int) d) ∧ t.size ≤ 4398046510000 := by
 by_cases h6 : k = 6
 ·exact z_dK k d ao c w (.inl h6) (hb (by subst h6; decide)) hc hz2 hz4 hi
 by_cases h8 : k = 8
 ·exact z_dK k d ao c w (.inr h8) (hb (by subst h8; decide)) hc hz2 hz4 hi
 by_cases h5 : k = 5
 ·subst h5
  exact z_k4 d.to d.name d.undo d.args ao c w hl hc hz1 hz2 hz3 hz4 hi
 exact z_iQ k h1 h2 h5 h6 h8 d.to d.name d.undo d.args ao c w hl hc hz1 hz2 hz3 hz4 hi
theorem z_f9 (k : Int) (d : Bd) : z_a6 (outW k d) = z_a7 k d := (z_jm _).symm
end
section
open Go.RowKit
def z_aY (ls : List Ln) : List ByteArray := uniU [] (z_ay (ls.map (·.2.to)))
def z_bm (ls : List Ln) : List ByteArray := uniU [] ((ls.filter (fun l => l.1 == 5)).map (·.2.name))
theorem z_jC (ls : List Ln) (k : Nat) (h : k < ls.length) (he : ls[k].2.to.size = 0) : z_aY (ls.take (k + 1)) = z_aY (ls.take k) := by
 rw [z_aY, z_aY, List.take_succ_eq_append_getElem h, List.map_append, z_ay, List.filter_append, ← z_ay]
 have : List.filter (fun s : ByteArray => decide (s.size ≠ 0)) (List.map (fun x : Ln => x.2.to) [ls[k]]) = [] := by
  rw [List.map_cons, List.filter_cons_of_neg (by simp only [decide_eq_true_eq]; omega)]; rfl
 rw [this, List.append_nil]
theorem z_k5 (ls : List Ln) (k : Nat) (h : k < ls.length) (he : ls[k].2.to.size ≠ 0) : z_aY (ls.take (k + 1)) = uniU (z_aY (ls.take k)) [ls[k].2.to] := by
 rw [z_aY, z_aY, List.take_succ_eq_append_getElem h, List.map_append, z_ay, List.filter_append, ← z_ay]
 have : List.filter (fun s : ByteArray => decide (s.size ≠ 0)) (List.map (fun x : Ln => x.2.to) [ls[k]]) = [ls[k].2.to] := by
  rw [List.map_cons, List.filter_cons_of_pos (by simp only [decide_eq_true_eq]; omega)]; rfl
 rw [this, z_bI]
theorem z_ju (ls : List Ln) (k : Nat) (h : k < ls.length) (he : (ls[k].1 == 5) = false) : z_bm (ls.take (k + 1)) = z_bm (ls.take k) := by
 rw [z_bm, z_bm, List.take_succ_eq_append_getElem h, List.filter_append]
 have : List.filter (fun l : Ln => l.1 == 5) [ls[k]] = [] := by rw [List.filter_cons_of_neg (by rw [he]; decide)]; rfl
 rw [this, List.append_nil]
theorem z_lA (ls : List Ln) (k : Nat) (h : k < ls.length) (he : (ls[k].1 == 5) = true) : z_bm (ls.take (k + 1)) = uniU (z_bm (ls.take k)) [ls[k].2.name] := by
 rw [z_bm, z_bm, List.take_succ_eq_append_getElem h, List.filter_append]
 have : List.filter (fun l : Ln => l.1 == 5) [ls[k]] = [ls[k]] := by rw [List.filter_cons_of_pos (p := fun l : Ln => l.1 == 5) he]; rfl
 rw [this, List.map_append, z_bI]; rfl
theorem z_dF (ls : List Ln) : (z_aY ls).length ≤ ls.length := by
 have h1 := z_bz (z_ay (ls.map (·.2.to))) []
 have h2 : (z_ay (ls.map (·.2.to))).length ≤ (ls.map (·.2.to)).length := List.length_filter_le _ _
 simp only [List.length_nil, List.length_map, Nat.zero_add] at h1 h2
 exact Nat.le_trans h1 h2
theorem z_fx (ls : List Ln) : (z_bm ls).length ≤ ls.length := by
 have h1 := z_bz ((ls.filter (fun l => l.1 == 5)).map (·.2.name)) []
 have h2 : (ls.filter (fun l => l.1 == 5)).length ≤ ls.length := List.length_filter_le _ _
 simp only [List.length_nil, List.length_map, Nat.zero_add] at h1
 exact Nat.le_trans h1 h2
theorem z_gE (w : World) (x : ByteArray) (t : TypeId) (W : World) (hW : W = w.alloc (.cells #[.string x] t)) : StrsAt w.heap.size W.heap.size W (some ⟨w.heap.size, 0, none⟩) [x] := by
 subst hW
 exact z_cm w [x] t
theorem z_c8 {A A' B : Nat} {w : World} {v : Value} {ss : List ByteArray} (h : z_bd A B w v ss) (ha : A' ≤ A) : z_bd A' B w v ss := by
 obtain ⟨ao, c, e, hc, hs⟩ := h
 exact ⟨ao, c, e, hc, hs.mono ha (Nat.le_refl _)⟩
theorem z_f8 (ao : Option Addr) (ca : Nat) (ls : List Ln) (w : World) (hl : ls.length ≤ 60) (hi : LinesAt w.heap.size w ao ls) :
  Calls Tryz.prog 143 #[.slice ao ls.length ca] w fun e w' => ∃ v, e = .returned v ∧ Below w.heap.size w w' ∧ z_bd w.heap.size w'.heap.size w' v (z_aY ls) := by
 have HI : Hid (LinesAt w.heap.size w ao ls) := hi
 clear hi
 go_enter Tryz.func143, Tryz.ntmps143
 go_wp2
 go_loopw [3, 4] (fun v ix wr => ∃ k : Nat, k ≤ ls.length ∧ ix = .int .i64 k ∧ Hid (z_bd w.heap.size wr.heap.size wr v (z_aY (ls.take k))) ∧ Hid (Below w.heap.size w wr)) (fun _ ix _ => ls.length - (intOf ix).toNat)
 case atStart => exact ⟨0, Nat.zero_le _, rfl, ⟨some ⟨w.heap.size, 0, none⟩, 0, rfl, Nat.le_refl _, StrsAt.nil _ _ _ _⟩, (Below.refl _ _).alloc (Nat.le_refl _) _⟩
 case round =>
  obtain ⟨k, hk, rfl, HV, HB⟩ := hrel
  have hwsz := HB.out.size
  by_cases hlt : k < ls.length
  ·obtain ⟨b, off, rfl, hB, hla⟩ := HI.out k hlt
   obtain ⟨ba, cc, _, c0, c1, c2, c3, c4, _⟩ := hla.below HB.out hB
   clear c3 c4 hla
   have hfl : (z_aY (ls.take k)).length ≤ 60 := by have := z_dF (ls.take k); simp at this; omega
   by_cases he : ls[k].2.to.size = 0
   ·have HF : Hid (z_aY (ls.take (k + 1)) = z_aY (ls.take k)) := z_jC ls k hlt he
    have hq : ls[k].2.to = ByteArray.empty := z_bD he
    rw [hq] at c1
    clear he hq c0 c2
    go_wp2
    go_roundw
    case rel => exact ⟨k + 1, by omega, by go_num, (show Hid _ by rw [HF.out]; exact HV), HB⟩
    case measure => simp [intOf]; omega
   ·skip
    obtain ⟨x, hx⟩ : ∃ x, x = ls[k].2.to := ⟨_, rfl⟩
    obtain ⟨A, hA⟩ : ∃ A, A = z_aY (ls.take k) := ⟨_, rfl⟩
    have HF : Hid (z_aY (ls.take (k + 1)) = uniU A [x]) := by show _ = _; rw [hA, hx]; exact z_k5 ls k hlt he
    rw [← hA] at HV hfl
    rw [← hx] at c1
    have he2 : x.size ≠ 0 := by rw [hx]; exact he
    obtain ⟨hq, hq2⟩ := z_ct he2
    clear hx he he2 c0 c2
    clear hA
    obtain ⟨vo, vc, rfl, hvc, hvs⟩ := HV.out
    have HVS : Hid (StrsAt w.heap.size wr.heap.size wr vo A) := hvs
    clear hvs
    go_wp2_with (go_at_call 104; refine (z_cS vo (some ⟨wr.heap.size, 0, none⟩) vc 1 A [x] _ (by omega) (by simp) (HVS.out.mono (Nat.zero_le _) (Nat.le_refl _) |>.later ((Below.refl _ _).alloc (Nat.le_refl _) _)) ((z_gE wr x _ _ rfl).mono (Nat.zero_le _) (Nat.le_refl _))).mono ?_; rintro e w3 ⟨v3, rfl, hb3, hv3⟩; have HB3 : Hid (Below w.heap.size w w3) := (HB.out.alloc hwsz _).trans (hb3.mono (by simp; omega)); have HV3 : Hid (z_bd w.heap.size w3.heap.size w3 v3 (uniU A [x])) := z_c8 hv3 (by simp; omega); clear hb3 hv3)
    go_roundw
    case rel => exact ⟨k + 1, by omega, by go_num, (show Hid _ by rw [HF.out]; exact HV3), HB3⟩
    case measure => simp [intOf]; omega
  ·have e0 : ls.take k = ls := List.take_of_length_le (by omega)
   rw [e0] at HV
   go_wp2
   go_ret
   exact ⟨_, rfl, HB.out, HV.out⟩
theorem z_gr (ao : Option Addr) (ca : Nat) (ls : List Ln) (w : World) (hl : ls.length ≤ 60) (hi : LinesAt w.heap.size w ao ls) :
  Calls Tryz.prog 145 #[.slice ao ls.length ca] w fun e w' => ∃ v, e = .returned v ∧ Below w.heap.size w w' ∧ z_bd w.heap.size w'.heap.size w' v (z_bm ls) := by
 have HI : Hid (LinesAt w.heap.size w ao ls) := hi
 clear hi
 go_enter Tryz.func145, Tryz.ntmps145
 go_wp2
 go_loopw [3, 4] (fun v ix wr => ∃ k : Nat, k ≤ ls.length ∧ ix = .int .i64 k ∧ Hid (z_bd w.heap.size wr.heap.size wr v (z_bm (ls.take k))) ∧ Hid (Below w.heap.size w wr)) (fun _ ix _ => ls.length - (intOf ix).toNat)
 case atStart => exact ⟨0, Nat.zero_le _, rfl, ⟨some ⟨w.heap.size, 0, none⟩, 0, rfl, Nat.le_refl _, StrsAt.nil _ _ _ _⟩, (Below.refl _ _).alloc (Nat.le_refl _) _⟩
 case round =>
  obtain ⟨k, hk, rfl, HV, HB⟩ := hrel
  have hwsz := HB.out.size
  by_cases hlt : k < ls.length
  ·obtain ⟨b, off, rfl, hB, hla⟩ := HI.out k hlt
   obtain ⟨ba, cc, _, c0, c1, c2, c3, c4, _⟩ := hla.below HB.out hB
   clear c3 c4 hla
   have hfl : (z_bm (ls.take k)).length ≤ 60 := by have := z_fx (ls.take k); simp at this; omega
   cases he : (ls[k].1 == 5) with
   | false =>
    have HF : Hid (z_bm (ls.take (k + 1)) = z_bm (ls.take k)) := z_ju ls k hlt he
    clear c1 c2
    go_wp2
    go_roundw
    case rel => exact ⟨k + 1, by omega, by go_num, (show Hid _ by rw [HF.out]; exact HV), HB⟩
    case measure => simp [intOf]; omega
   | true =>
    obtain ⟨x, hx⟩ : ∃ x, x = ls[k].2.name := ⟨_, rfl⟩
    obtain ⟨A, hA⟩ : ∃ A, A = z_bm (ls.take k) := ⟨_, rfl⟩
    have HF : Hid (z_bm (ls.take (k + 1)) = uniU A [x]) := by show _ = _; rw [hA, hx]; exact z_lA ls k hlt he
    rw [← hA] at HV hfl
    rw [← hx] at c2
    clear hx c1
    clear hA
    obtain ⟨vo, vc, rfl, hvc, hvs⟩ := HV.out
    have HVS : Hid (StrsAt w.heap.size wr.heap.size wr vo A) := hvs
    clear hvs
    go_wp2_with (go_at_call 104; refine (z_cS vo (some ⟨wr.heap.size, 0, none⟩) vc 1 A [x] _ (by omega) (by simp) (HVS.out.mono (Nat.zero_le _) (Nat.le_refl _) |>.later ((Below.refl _ _).alloc (Nat.le_refl _) _)) ((z_gE wr x _ _ rfl).mono (Nat.zero_le _) (Nat.le_refl _))).mono ?_; rintro e w3 ⟨v3, rfl, hb3, hv3⟩; have HB3 : Hid (Below w.heap.size w w3) := (HB.out.alloc hwsz _).trans (hb3.mono (by simp; omega)); have HV3 : Hid (z_bd w.heap.size w3.heap.size w3 v3 (uniU A [x])) := z_c8 hv3 (by simp; omega); clear hb3 hv3)
    go_roundw
    case rel => exact ⟨k + 1, by omega, by go_num, (show Hid _ by rw [HF.out]; exact HV3), HB3⟩
    case measure => simp [intOf]; omega
  ·have e0 : ls.take k = ls := List.take_of_length_le (by omega)
   rw [e0] at HV
   go_wp2
   go_ret
   exact ⟨_, rfl, HB.out, HV.out⟩
end
section
open Go.RowKit
def argN (l : Ln) : List ByteArray := l.2.args.filter z_ac
def z_bl (ls : List Ln) : List ByteArray := uniU (z_aY ls) (ls.flatMap argN)
theorem z_lr (xs : List ByteArray) (k : Nat) (h : k < xs.length) : (xs.take (k + 1)).filter z_ac = (xs.take k).filter z_ac ++ (if z_ac xs[k] = true then [xs[k]] else []) := by
 rw [List.take_succ_eq_append_getElem h, List.filter_append]
 cases hh : z_ac xs[k] <;> simp [hh]
theorem z_lO (ls : List Ln) (k : Nat) (h : k < ls.length) : (ls.take (k + 1)).flatMap argN = (ls.take k).flatMap argN ++ argN ls[k] := by
 rw [List.take_succ_eq_append_getElem h, List.flatMap_append]; simp
theorem z_j1 : ∀ (ls : List Ln), (∀ l ∈ ls, l.2.args.length ≤ 100) → (ls.flatMap argN).length ≤ ls.length * 100
 | [], _ => by simp
 | l :: r, h => by
  have h1 := h l (by simp)
  have h2 := z_j1 r (fun x hx => h x (by simp [hx]))
  have h3 : (argN l).length ≤ l.2.args.length := List.length_filter_le _ _
  rw [List.flatMap_cons, List.length_append, List.length_cons]; omega
theorem z_g7 (ao : Option Addr) (ca : Nat) (ls : List Ln) (w : World) (hl : ls.length ≤ 60) (hi : LinesAt w.heap.size w ao ls) (hz : ∀ l ∈ ls, LnSz l) (ha : ∀ l ∈ ls, l.2.args.length ≤ 100) :
  Calls Tryz.prog 144 #[.slice ao ls.length ca] w fun e w' => ∃ v, e = .returned v ∧ Below w.heap.size w w' ∧ z_bd w.heap.size w'.heap.size w' v (z_bl ls) := by
 have HI : Hid (LinesAt w.heap.size w ao ls) := hi
 have HZ : Hid (∀ l ∈ ls, LnSz l) := hz
 have HA : Hid (∀ l ∈ ls, l.2.args.length ≤ 100) := ha
 clear hi hz ha
 go_enter Tryz.func144, Tryz.ntmps144
 go_wp2_with (go_at_call 143; refine (z_f8 ao ca ls w hl HI.out).mono ?_; rintro e w1 ⟨v1, rfl, hb1, hv1⟩; have HB1 : Hid (Below w.heap.size w w1) := hb1; have HV1 : Hid (z_bd w.heap.size w1.heap.size w1 v1 (z_aY ls)) := hv1; clear hb1 hv1)
 go_loopw [3, 4] (fun v ix wr => ∃ k : Nat, k ≤ ls.length ∧ ix = .int .i64 k ∧ Hid (z_bd w.heap.size wr.heap.size wr v (uniU (z_aY ls) ((ls.take k).flatMap argN))) ∧ Hid (Below w.heap.size w wr)) (fun _ ix _ => ls.length - (intOf ix).toNat)
 case atStart => exact ⟨0, Nat.zero_le _, rfl, HV1, HB1⟩
 case round =>
  obtain ⟨k, hk, rfl, HV, HB⟩ := hrel
  clear HV1 HB1
  obtain ⟨W1, hW1⟩ : ∃ W1, W1 = wr := ⟨_, rfl⟩
  subst hW1
  by_cases hlt : k < ls.length
  ·obtain ⟨b, off, rfl, hB, hla⟩ := HI.out k hlt
   obtain ⟨aa, ac, hac, _, _, _, c3, _, hss⟩ := hla
   have hla100 := HA.out _ (List.getElem_mem hlt)
   have hszl := (HZ.out _ (List.getElem_mem hlt)).args
   obtain ⟨xs, hxs⟩ : ∃ xs, xs = ls[k].2.args := ⟨_, rfl⟩
   obtain ⟨A, hA⟩ : ∃ A, A = uniU (z_aY ls) ((ls.take k).flatMap argN) := ⟨_, rfl⟩
   have HF : Hid (uniU (z_aY ls) ((ls.take (k + 1)).flatMap argN) = uniU A (xs.filter z_ac)) := by
    show _ = _; rw [hA, hxs, z_lO ls k hlt, z_bI]; rfl
   have hAl : A.length ≤ 6060 := by
    rw [hA]
    have h1 := z_bz ((ls.take k).flatMap argN) (z_aY ls)
    have h2 := z_dF ls
    have h3 := z_j1 (ls.take k) (fun l hm => HA.out l (List.mem_of_mem_take hm))
    rw [List.length_take] at h3
    omega
   rw [← hA] at HV
   rw [← hxs] at hac c3 hss hla100 hszl
   have HSS : Hid (StrsAt 0 w.heap.size w aa xs) := hss
   have HZX : Hid (∀ s ∈ xs, s.size ≤ 1048576) := hszl
   have hxl : xs.length ≤ 100 := hla100
   clear hA hxs hss hszl hla100
   go_wp2_with fail
   go_loopw [3, 5] (fun v jx wr => ∃ j : Nat, j ≤ xs.length ∧ jx = .int .i64 j ∧ Hid (z_bd w.heap.size wr.heap.size wr v (uniU A ((xs.take j).filter z_ac))) ∧ Hid (Below w.heap.size w wr)) (fun _ jx _ => xs.length - (intOf jx).toNat)
   case atStart => exact ⟨0, Nat.zero_le _, rfl, HV, HB⟩
   case round =>
    obtain ⟨j, hj, rfl, HV2, HB2⟩ := hrel
    have hwsz := HB2.out.size
    have d3 := (HB2.out.cell (p := ⟨b, off + k * 5 + 3, none⟩) hB).trans c3
    by_cases hjt : j < xs.length
    ·obtain ⟨b2, off2, rfl, hB2, x0⟩ := HSS.out.at j hjt
     have x1 := (HB2.out.cell (p := ⟨b2, off2 + j, none⟩) (by show b2 < _; omega)).trans x0
     have hszx := HZX.out _ (List.getElem_mem hjt)
     have hsn := z_lr xs j hjt
     have hfl : (uniU A ((xs.take j).filter z_ac)).length ≤ 7000 := by
      have h1 := z_bz ((xs.take j).filter z_ac) A
      have h2 : ((xs.take j).filter z_ac).length ≤ (xs.take j).length := List.length_filter_le _ _
      simp at h2
      omega
     clear x0
     cases hn : z_ac xs[j] with
     | false =>
      rw [hn, if_neg (by decide), List.append_nil] at hsn
      have HF2 : Hid ((xs.take (j + 1)).filter z_ac = (xs.take j).filter z_ac) := hsn
      clear hsn
      go_wp2_with (go_at_call 140; refine (z_a _ wr (by omega)).mono ?_; rintro e wr ⟨rfl, rfl⟩; rw [hn])
      go_roundw
      case rel => exact ⟨j + 1, by omega, by go_num, (show Hid _ by rw [HF2.out]; exact HV2), HB2⟩
      case measure => simp [intOf]; omega
     | true =>
      rw [hn, if_pos rfl] at hsn
      obtain ⟨x, hx⟩ : ∃ x, x = xs[j] := ⟨_, rfl⟩
      obtain ⟨C, hC⟩ : ∃ C, C = uniU A ((xs.take j).filter z_ac) := ⟨_, rfl⟩
      have HF2 : Hid (uniU A ((xs.take (j + 1)).filter z_ac) = uniU C [x]) := by show _ = _; rw [hsn, z_bI, hC, hx]
      rw [← hC] at HV2 hfl
      rw [← hx] at x1 hn hszx
      clear hsn hC hx
      obtain ⟨vo, vc, rfl, hvc, hvs⟩ := HV2.out
      have HVS : Hid (StrsAt w.heap.size wr.heap.size wr vo C) := hvs
      clear hvs
      go_wp2_with (first | (go_at_call 140; refine (z_a _ wr (by omega)).mono ?_; rintro e wr ⟨rfl, rfl⟩; rw [hn]) | (go_at_call 104; refine (z_cS vo (some ⟨wr.heap.size, 0, none⟩) vc 1 C [x] _ (by omega) (by simp) (HVS.out.mono (Nat.zero_le _) (Nat.le_refl _) |>.later ((Below.refl _ _).alloc (Nat.le_refl _) _)) ((z_gE wr x _ _ rfl).mono (Nat.zero_le _) (Nat.le_refl _))).mono ?_; rintro e w3 ⟨v3, rfl, hb3, hv3⟩; have HB3 : Hid (Below w.heap.size w w3) := (HB2.out.alloc hwsz _).trans (hb3.mono (by simp; omega)); have HV3 : Hid (z_bd w.heap.size w3.heap.size w3 v3 (uniU C [x])) := z_c8 hv3 (by simp; omega); clear hb3 hv3))
      go_roundw
      case rel => exact ⟨j + 1, by omega, by go_num, (show Hid _ by rw [HF2.out]; exact HV3), HB3⟩
      case measure => simp [intOf]; omega
    ·have e0 : xs.take j = xs := List.take_of_length_le (by omega)
     rw [e0] at HV2
     go_wp2
     go_roundw
     case rel => exact ⟨k + 1, by omega, by go_num, (show Hid _ by rw [HF.out]; exact HV2), HB2⟩
     case measure => simp [intOf]; omega
  ·have e0 : ls.take k = ls := List.take_of_length_le (by omega)
   rw [e0] at HV
   go_wp2
   go_ret
   exact ⟨_, rfl, HB.out, HV.out⟩
end
end Go.Proofs.YtlbjjbolbopfmaaGreatDoor
