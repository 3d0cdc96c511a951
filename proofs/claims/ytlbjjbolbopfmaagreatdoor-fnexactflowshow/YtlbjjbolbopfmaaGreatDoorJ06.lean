import Derived.Test.YtlbjjbolbopfmaaGreatDoorJ02
import Derived.Test.YtlbjjbolbopfmaaGreatDoorJ03
import Derived.Deep.LoopGhost
import Derived.Deep.AppendLies
import Derived.Test.YtlbjjbolbopfmaaGreatDoorJ04
import Derived.Deep.RegionWith
import Derived.Laws.IdiomStrings
import Derived.BigQuiet
import Derived.Deep.QuietTactic
namespace Go.Proofs.YtlbjjbolbopfmaaGreatDoor
set_option maxHeartbeats 2000000
set_option maxRecDepth 1000000
set_option linter.unusedVariables false
section
open Go.RowKit
def WObj (w : World) (q : Nat) (a b v d : Value) : Prop := w.heap[q]? = some (.cells #[a, b, v, d] 135 (0, 0))
structure Wk (q : Nat) (row : Option Nat) (w w' : World) : Prop where
 os : w'.os = w.os
 tape : w'.tape = w.tape
 output : w'.output = w.output
 size : w.heap.size ≤ w'.heap.size
 block : ∀ k, k < w.heap.size → k ≠ q → some k ≠ row → w'.heap[k]? = w.heap[k]?
def RowTo (w : World) (v v' : Value) : Prop := v'.ownBlock = v.ownBlock ∨ ∀ k, v'.ownBlock = some k → w.heap.size ≤ k
section
variable {w w' w'' : World} {q : Nat} {a b v d : Value} {row row' : Option Nat}
theorem Wk.refl : Wk q row w w := ⟨rfl, rfl, rfl, Nat.le_refl _, fun _ _ _ _ => rfl⟩
theorem Wk.trans (h : Wk q row w w') (h' : Wk q row' w' w'') (hr : row' = row ∨ ∀ k, row' = some k → w.heap.size ≤ k) : Wk q row w w'' :=
 ⟨h'.os.trans h.os, h'.tape.trans h.tape, h'.output.trans h.output, Nat.le_trans h.size h'.size, fun k hk hq hne => (h'.block k (Nat.lt_of_lt_of_le hk h.size) hq (fun e => by
  rcases hr with hr | hr
  ·exact hne (e.trans hr)
  ·have := hr k e.symm; omega)).trans (h.block k hk hq hne)⟩
theorem Wk.of_below (h : Below w.heap.size w w') : Wk q row w w' := ⟨h.os, h.tape, h.output, h.size, fun k hk _ _ => h.block k hk⟩
theorem Wk.of_grown (h : w.grownBy w' row) : Wk q row w w' := ⟨h.os, h.tape, h.output, h.size, fun k hk _ hne => h.block k hk hne⟩
theorem Wk.of_set (j : Nat) (u : Value) : Wk q row w (w.setCell ⟨q, j, none⟩ u) := ⟨rfl, rfl, rfl, by simp [World.setCell], fun k _ hq _ => Below.heap_setCell w _ u k hq⟩
theorem Wk.below (h : Wk q row w w') (B : Nat) (hB : B ≤ q) (hw : B ≤ w.heap.size) (hr : ∀ k, row = some k → B ≤ k) : Below B w w' :=
 ⟨h.os, h.tape, h.output, h.size, fun k hk => h.block k (by omega) (by omega) (fun e => by have := hr k e.symm; omega)⟩
theorem Wk.cell (h : Wk q row w w') {x : Nat} (hx : x < w.heap.size) (hq : x ≠ q) (hr : some x ≠ row) (j : Nat) : w'.cell? ⟨x, j, none⟩ = w.cell? ⟨x, j, none⟩ := World.cell?_of_block (a := ⟨x, j, none⟩) (h.block x hx hq hr)
theorem Wk.frozen (h : Wk q row w w') {x : Nat} (hx : x < w.heap.size) (hq : x ≠ q) (hr : some x ≠ row) (j : Nat) : w'.frozen? ⟨x, j, none⟩ = w.frozen? ⟨x, j, none⟩ := World.frozen?_of_block (a := ⟨x, j, none⟩) (h.block x hx hq hr)
theorem RowTo.refl : RowTo w v v := .inl rfl
theorem RowTo.trans {v' v'' : Value} (h : RowTo w v v') (h' : RowTo w' v' v'') (hs : w.heap.size ≤ w'.heap.size) : RowTo w v v'' := by
 rcases h' with h' | h'
 ·rcases h with h | h
  ·exact .inl (h'.trans h)
  ·exact .inr fun k hk => h k (h' ▸ hk)
 ·exact .inr fun k hk => by have := h' k hk; omega
theorem RowTo.or {v' : Value} (h : RowTo w v v') : v'.ownBlock = v.ownBlock ∨ ∀ k, v'.ownBlock = some k → w.heap.size ≤ k := h
theorem WObj.lt (h : WObj w q a b v d) : q < w.heap.size := (Array.getElem?_eq_some_iff.1 h).1
theorem WObj.c0 (h : WObj w q a b v d) : w.cell? ⟨q, 0, none⟩ = some a := by rw [cell_of_row w q 0 _ _ _ h]; rfl
theorem WObj.c1 (h : WObj w q a b v d) : w.cell? ⟨q, 1, none⟩ = some b := by rw [cell_of_row w q 1 _ _ _ h]; rfl
theorem WObj.c2 (h : WObj w q a b v d) : w.cell? ⟨q, 2, none⟩ = some v := by rw [cell_of_row w q 2 _ _ _ h]; rfl
theorem WObj.c3 (h : WObj w q a b v d) : w.cell? ⟨q, 3, none⟩ = some d := by rw [cell_of_row w q 3 _ _ _ h]; rfl
theorem WObj.f (h : WObj w q a b v d) (j : Nat) : w.frozen? ⟨q, j, none⟩ = false := frozen_of_row w q j _ _ h
theorem WObj.keep (h : WObj w q a b v d) (hb : w'.heap[q]? = w.heap[q]?) : WObj w' q a b v d := hb.trans h
theorem WObj.below (h : WObj w q a b v d) (hb : Below w.heap.size w w') : WObj w' q a b v d := h.keep (hb.block q h.lt)
theorem WObj.set1 (h : WObj w q a b v d) (u : Value) : WObj (w.setCell ⟨q, 1, none⟩ u) q a u v d := heap_setCell_same w q 1 _ _ u h
theorem WObj.set2 (h : WObj w q a b v d) (u : Value) : WObj (w.setCell ⟨q, 2, none⟩ u) q a b u d := heap_setCell_same w q 2 _ _ u h
theorem WObj.set3 (h : WObj w q a b v d) (u : Value) : WObj (w.setCell ⟨q, 3, none⟩ u) q a b v u := heap_setCell_same w q 3 _ _ u h
theorem z_ad {base n size : Nat} {e : TypeId} {x : Value} {xs : List Value} (h : w.ownsRow base e size x n xs) {g j : Nat} (hne : x.ownBlock ≠ some g) (u : Value) : (w.setCell ⟨g, j, none⟩ u).ownsRow base e size x n xs := by
 refine ⟨h.1, ?_⟩
 rcases h.2 with hn | ⟨g', cap, cur, rfl, hb, hg, rest⟩
 ·exact .inl hn
 ·refine .inr ⟨g', cap, cur, rfl, hb, ?_, rest⟩
  rw [Below.heap_setCell w _ u g' (fun e => hne (by simp [Value.ownBlock, e]))]; exact hg
theorem z_b9 {base n size : Nat} {e : TypeId} {x : Value} {xs : List Value} (h : w.ownsRow base e size x n xs) (hk : ∀ k, x.ownBlock = some k → w'.heap[k]? = w.heap[k]?) : w'.ownsRow base e size x n xs := by
 refine ⟨h.1, ?_⟩
 rcases h.2 with hn | ⟨g', cap, cur, rfl, hb, hg, rest⟩
 ·exact .inl hn
 ·exact .inr ⟨g', cap, cur, rfl, hb, (hk g' rfl).trans hg, rest⟩
end
theorem z_ib (ks ss : List ByteArray) (k : Nat) (h : k < ss.length) : uniU ks (ss.take (k + 1)) = addU (uniU ks (ss.take k)) ss[k] := by
 rw [List.take_succ_eq_append_getElem h, z_bI]; rfl
theorem z_mt (ks : List ByteArray) (s : ByteArray) : (addU ks s).length ≤ ks.length + 1 := by
 rw [addU]; split <;> simp
theorem z_bz : ∀ (ss ks : List ByteArray), (uniU ks ss).length ≤ ks.length + ss.length
 | [], ks => by simp [uniU]
 | s :: r, ks => by
  have h1 := z_bz r (addU ks s)
  have h2 := z_mt ks s
  show (uniU (addU ks s) r).length ≤ _
  simp only [List.length_cons]; omega
end
section
open Go.RowKit
theorem z_cM (q o : Nat) (v : Value) (ks : List ByteArray) (s : ByteArray) (base : Nat) (w : World) (hl : ks.length ≤ 4398046511104) (hc : w.cell? ⟨q, o, none⟩ = some v) (ho : w.ownsRow base 9 1 v ks.length (strCells ks)) :
  Calls Tryz.prog 126 #[.pointer (some ⟨q, o, none⟩), .string s] w fun e w' => e = .returned (.bool (hasB ks s)) ∧ w' = w := by
 obtain ⟨ao, cap, rfl, hcap, hi⟩ := StrsAt.of_owns ho
 have HI : Hid (StrsAt base w.heap.size w ao ks) := hi
 clear hi ho
 go_enter Tryz.func126, Tryz.ntmps126
 go_wp2_with (go_at_call 162; refine (z_bN ao cap ks s w.heap.size w (by omega) (HI.out.mono (Nat.zero_le _) (Nat.le_refl _))).mono ?_; rintro e w' ⟨rfl, rfl⟩)
 go_ret
 exact ⟨rfl, rfl⟩
theorem z_fM (q o : Nat) (ao : Option Addr) (n cap : Nat) (w : World) (hl : n ≤ 4398046511104) (hc : w.cell? ⟨q, o, none⟩ = some (.slice ao n cap)) :
  Calls Tryz.prog 127 #[.pointer (some ⟨q, o, none⟩)] w fun e w' => e = .returned (.int .i64 n) ∧ w' = w := by
 go_enter Tryz.func127, Tryz.ntmps127
 go_wp2
 go_ret
 exact ⟨rfl, rfl⟩
end
section
open Go.RowKit
theorem z_d0 (q : Nat) (a b v d : Value) (ks : List ByteArray) (s : ByteArray) (base : Nat) (w : World) (hq : WObj w q a b v d) (ho : w.ownsRow base 9 1 v ks.length (strCells ks)) (hl : ks.length ≤ 4398046511000) (hs : s.size ≤ 2199023255552) (he : Env w) :
  Calls Tryz.prog 165 #[.pointer (some ⟨q, 0, none⟩), .string s] w fun e w' => e = .returned (.bool (z_ce ks s)) ∧ Below w.heap.size w w' := by
 have HQ : Hid (WObj w q a b v d) := hq
 have HO : Hid (w.ownsRow base 9 1 v ks.length (strCells ks)) := ho
 have HD : Hid (z_ce ks s = (numB s || hasB ks s)) := rfl
 clear hq ho
 go_enter Tryz.func165, Tryz.ntmps165
 go_wp2_with fail
 refine (z_en s w hs he).mono ?_
 rintro e w1 ⟨rfl, hb1⟩
 have HB1 : Hid (Below w.heap.size w w1) := hb1
 have HO1 : Hid (w1.ownsRow base 9 1 v ks.length (strCells ks)) := z_ax HO.out hb1
 have c2 := (HQ.out.below hb1).c2
 clear hb1 he
 cases hn : numB s with
 | true =>
  go_wp2
  go_ret
  exact ⟨by rw [HD.out, hn]; rfl, HB1.out⟩
 | false =>
  go_wp2_with (go_at_call 126; refine (z_cM q 2 v ks s base w1 (by omega) c2 HO1.out).mono ?_; rintro e w1 ⟨rfl, rfl⟩)
  go_ret
  exact ⟨by rw [HD.out, hn]; rfl, HB1.out⟩
theorem z_ex (q : Nat) (a b v d : Value) (ks : List ByteArray) (base : Nat) (ao : Option Addr) (cap : Nat) (ss : List ByteArray) (w : World) (hq : WObj w q a b v d) (ho : w.ownsRow base 9 1 v ks.length (strCells ks)) (hlk : ks.length ≤ 4398046511000)
  (hl : ss.length ≤ 9223372036854775807) (hs : ∀ s ∈ ss, s.size ≤ 2199023255552) (hi : StrsAt 0 w.heap.size w ao ss) (he : Env w) :
  Calls Tryz.prog 164 #[.slice ao ss.length cap, .func (.func 165) #[.pointer (some ⟨q, 0, none⟩)] #[]] w fun e w' => e = .returned (.bool (allB (z_ce ks) ss)) ∧ Below w.heap.size w w' := by
 have HI : Hid (StrsAt 0 w.heap.size w ao ss) := hi
 have HSz : Hid (∀ s ∈ ss, s.size ≤ 2199023255552) := hs
 have HE : Hid (Env w) := he
 have HQ : Hid (∀ w', Below w.heap.size w w' → WObj w' q a b v d) := fun w' h => hq.below h
 have HO : Hid (∀ w', Below w.heap.size w w' → w'.ownsRow base 9 1 v ks.length (strCells ks)) := fun w' h => z_ax ho h
 clear hi hs he hq ho
 go_enter Tryz.func164, Tryz.ntmps164
 go_wp2
 go_loopw [9] (fun i wr => ∃ k : Nat, k ≤ ss.length ∧ i = .int .i64 k ∧ Hid (Below w.heap.size w wr) ∧ Hid (allB (z_ce ks) (ss.take k) = true)) (fun i _ => ss.length - (intOf i).toNat)
 case atStart => exact ⟨0, Nat.zero_le _, rfl, Below.refl _ _, rfl⟩
 case round =>
  obtain ⟨k, hk, rfl, HB, HA⟩ := hrel
  by_cases hlt : k < ss.length
  ·obtain ⟨bb, off, rfl, hB', hc0⟩ := HI.out.at k hlt
   have hc := (HB.out.cell (p := ⟨bb, off + k, none⟩) (by show bb < _; omega)).trans hc0
   clear hc0
   cases hn : z_ce ks ss[k] with
   | true =>
    have HN : Hid (allB (z_ce ks) (ss.take (k + 1)) = true) := by show _ = _; rw [z_c4 _ _ _ hlt, HA.out, hn]; rfl
    go_wp2_with (go_at_call 165; refine (z_d0 q a b v d ks _ base wr (HQ.out _ HB.out) (HO.out _ HB.out) hlk (HSz.out _ (List.getElem_mem hlt)) (HE.out.later HB.out)).mono ?_; rintro e w1 ⟨rfl, hb1⟩; rw [hn]; have HB1 : Hid (Below w.heap.size w w1) := HB.out.trans (hb1.mono HB.out.size); clear hb1)
    go_roundw
    case rel => exact ⟨k + 1, by omega, by go_num, HB1, HN⟩
    case measure => simp [intOf]; omega
   | false =>
    have HN : Hid (allB (z_ce ks) ss = false) := z_fh _ _ _ hlt hn
    go_wp2_with (go_at_call 165; refine (z_d0 q a b v d ks _ base wr (HQ.out _ HB.out) (HO.out _ HB.out) hlk (HSz.out _ (List.getElem_mem hlt)) (HE.out.later HB.out)).mono ?_; rintro e w1 ⟨rfl, hb1⟩; rw [hn]; have HB1 : Hid (Below w.heap.size w w1) := HB.out.trans (hb1.mono HB.out.size); clear hb1)
    go_ret
    exact ⟨by rw [HN.out]; rfl, HB1.out⟩
  ·have HN : Hid (allB (z_ce ks) ss = true) := by
    have e0 : ss.take k = ss := List.take_of_length_le (by omega)
    rw [← e0]; exact HA.out
   go_wp2
   go_ret
   exact ⟨by rw [HN.out]; rfl, HB.out⟩
theorem z_eX (q : Nat) (a v d : Value) (at_ : Nat) (c : Int) (w : World) (hq : WObj w q a (.int .i64 at_) v d) (hc : c ≠ 0) (hat : at_ ≤ 1000) :
  Calls Tryz.prog 163 #[.pointer (some ⟨q, 0, none⟩), .int .i64 c] w fun e w' => (∃ v, e = .returned v ∧ z_eg v) ∧ w' = w := by
 have c1 := hq.c1
 clear hq
 go_enter Tryz.func163, Tryz.ntmps163
 go_wp2
 go_ret
 exact ⟨⟨_, rfl, _, _, rfl, hc⟩, rfl⟩
end
section
open Go.RowKit
theorem z_aK (s : ByteArray) (w : World) (hs : s.size ≤ 9223372036854775807) :
  Calls Tryz.prog 199 #[.string s] w fun e w' => e = .returned (.bool (z_an s)) ∧ w' = w := by
 cases hn : numB s with
 | true =>
  have HN : Hid (z_an s = true) := by show _ = _; rw [z_an, hn]; simp
  go_enter Tryz.func199, Tryz.ntmps199
  go_wp2_with (go_at_call 210; refine (z_iM s w hs).mono ?_; rintro e w ⟨⟨n, rfl, _⟩, rfl⟩; rw [hn])
  go_ret
  exact ⟨by rw [HN.out]; rfl, rfl⟩
 | false =>
  have HN : Hid (z_an s = z_ac s) := by show _ = _; rw [z_an, hn]; simp
  go_enter Tryz.func199, Tryz.ntmps199
  go_wp2_with (first | (go_at_call 210; refine (z_iM s w hs).mono ?_; rintro e w ⟨⟨n, rfl, _⟩, rfl⟩; rw [hn]) | (go_at_call 140; refine (z_a s w hs).mono ?_; rintro e w ⟨rfl, rfl⟩))
  go_ret
  exact ⟨by rw [HN.out]; rfl, rfl⟩
theorem z_aV (ao : Option Addr) (cap : Nat) (ss : List ByteArray) (B : Nat) (w : World) (hl : ss.length ≤ 9223372036854775807) (hs : ∀ s ∈ ss, s.size ≤ 9223372036854775807) (hi : StrsAt 0 B w ao ss) :
  Calls Tryz.prog 197 #[.slice ao ss.length cap] w fun e w' => e = .returned (.bool (allB z_an ss)) ∧ w' = w := by
 have HI : Hid (StrsAt 0 B w ao ss) := hi
 have HSz : Hid (∀ s ∈ ss, s.size ≤ 9223372036854775807) := hs
 clear hi hs
 go_enter Tryz.func197, Tryz.ntmps197
 go_wp2
 go_loop [3] (fun i => ∃ k : Nat, k ≤ ss.length ∧ i = .int .i64 k ∧ Hid (allB z_an (ss.take k) = true)) (fun i => ss.length - (intOf i).toNat)
 case atStart => exact ⟨0, Nat.zero_le _, rfl, by simp [allB, Hid]⟩
 case round =>
  obtain ⟨k, hk, rfl, HH⟩ := hrel
  by_cases hlt : k < ss.length
  ·obtain ⟨b, off, rfl, hB, hc⟩ := HI.out.at k hlt
   cases hn : z_an ss[k] with
   | true =>
    have HN : Hid (allB z_an (ss.take (k + 1)) = true) := by show _ = _; rw [z_c4 _ _ _ hlt, HH.out, hn]; rfl
    go_wp2_with (go_at_call 199; refine (z_aK _ _ (HSz.out _ (List.getElem_mem hlt))).mono ?_; rintro e w1 ⟨rfl, rfl⟩; rw [hn])
    go_round
    case rel => exact ⟨k + 1, by omega, by go_num, HN⟩
    case measure => simp [intOf]; omega
   | false =>
    have HN : Hid (allB z_an ss = false) := z_fh _ _ _ hlt hn
    go_wp2_with (go_at_call 199; refine (z_aK _ _ (HSz.out _ (List.getElem_mem hlt))).mono ?_; rintro e w1 ⟨rfl, rfl⟩; rw [hn])
    go_ret
    exact ⟨by rw [HN.out]; rfl, rfl⟩
  ·have HN : Hid (allB z_an ss = true) := by
    have e0 : ss.take k = ss := List.take_of_length_le (by omega)
    rw [← e0]; exact HH.out
   go_wp2
   go_ret
   exact ⟨by rw [HN.out]; rfl, rfl⟩
end
section
open Go.RowKit
section
variable {β : Type} {F : β → List Value} {K : Nat}
theorem z_d9 (h : ∀ b, (F b).length = K) : ∀ ps : List β, (ps.flatMap F).length = ps.length * K
 | [] => by simp
 | p :: r => by rw [List.flatMap_cons, List.length_append, h, z_d9 h r, List.length_cons, Nat.succ_mul, Nat.add_comm]
theorem z_lt (h : ∀ b, (F b).length = K) : ∀ (ps : List β) (i j : Nat) (hi : i < ps.length), j < K → (ps.flatMap F)[i * K + j]? = (F ps[i])[j]?
 | [], i, j, hi, _ => by simp at hi
 | p :: r, 0, j, _, hj => by
  rw [List.flatMap_cons, Nat.zero_mul, Nat.zero_add, List.getElem?_append_left (by rw [h]; exact hj)]; rfl
 | p :: r, i + 1, j, hi, hj => by
  have e : (i + 1) * K + j = K + (i * K + j) := by rw [Nat.succ_mul]; omega
  have hi' : i < r.length := by simpa using hi
  rw [List.flatMap_cons, e, List.getElem?_append_right (by rw [h]; omega), h, Nat.add_sub_cancel_left, z_lt h r i j hi' hj]; rfl
theorem z_j5 (h : ∀ b, (F b).length = K) (u : Value) (q : β) : ∀ (ps : List β) (i j : Nat) (hi : i < ps.length), j < K → F q = (F ps[i]).set j u → (ps.flatMap F).set (i * K + j) u = (ps.set i q).flatMap F
 | [], i, j, hi, _, _ => by simp at hi
 | p :: r, 0, j, _, hj, hq => by
  rw [List.flatMap_cons, Nat.zero_mul, Nat.zero_add, List.set_append_left _ _ (by rw [h]; exact hj), List.set_cons_zero, List.flatMap_cons, hq]; rfl
 | p :: r, i + 1, j, hi, hj, hq => by
  have e : (i + 1) * K + j = K + (i * K + j) := by rw [Nat.succ_mul]; omega
  have hi' : i < r.length := by simpa using hi
  rw [List.flatMap_cons, e, List.set_append_right _ _ (by rw [h]; omega), h, Nat.add_sub_cancel_left, z_j5 h u q r i j hi' hj hq, List.set_cons_succ, List.flatMap_cons]
end
structure Inn (S : Nat → Prop) (w w' : World) : Prop where
 os : w'.os = w.os
 tape : w'.tape = w.tape
 output : w'.output = w.output
 size : w.heap.size ≤ w'.heap.size
 block : ∀ k, k < w.heap.size → ¬ S k → w'.heap[k]? = w.heap[k]?
section
variable {S S' : Nat → Prop} {w w' w'' : World}
theorem Inn.refl : Inn S w w := ⟨rfl, rfl, rfl, Nat.le_refl _, fun _ _ _ => rfl⟩
theorem Inn.trans (h : Inn S w w') (h' : Inn S w' w'') : Inn S w w'' :=
 ⟨h'.os.trans h.os, h'.tape.trans h.tape, h'.output.trans h.output, Nat.le_trans h.size h'.size, fun k hk hn => (h'.block k (Nat.lt_of_lt_of_le hk h.size) hn).trans (h.block k hk hn)⟩
theorem Inn.mono (h : Inn S w w') (hs : ∀ k, k < w.heap.size → S k → S' k) : Inn S' w w' := ⟨h.os, h.tape, h.output, h.size, fun k hk hn => h.block k hk fun x => hn (hs k hk x)⟩
theorem Inn.of_below (h : Below w.heap.size w w') : Inn S w w' := ⟨h.os, h.tape, h.output, h.size, fun k hk _ => h.block k hk⟩
theorem Inn.of_grown {row : Option Nat} (h : w.grownBy w' row) (hr : ∀ k, row = some k → S k) : Inn S w w' := ⟨h.os, h.tape, h.output, h.size, fun k hk hn => h.block k hk fun e => hn (hr k e.symm)⟩
theorem Inn.below (h : Inn S w w') {B : Nat} (hB : B ≤ w.heap.size) (hs : ∀ k, S k → B ≤ k) : Below B w w' := ⟨h.os, h.tape, h.output, h.size, fun k hk => h.block k (Nat.lt_of_lt_of_le hk hB) fun x => Nat.lt_irrefl _ (Nat.lt_of_lt_of_le hk (hs k x))⟩
theorem Inn.own (h : Inn S w w') {base n size : Nat} {e : TypeId} {v : Value} {xs : List Value} (ho : w.ownsRow base e size v n xs) (hn : ∀ k, v.ownBlock = some k → ¬ S k) : w'.ownsRow base e size v n xs :=
 z_b9 ho fun k hk => h.block k (ho.lt k hk).2 (hn k hk)
end
structure OwnSt {α : Type} (T : TypeId) (K : Nat) (f : α → Value → List Value) (ar : α → List ByteArray) (base : Nat) (w : World) (v : Value) (ps : List (α × Value)) : Prop where
 row : w.ownsRow base T K v ps.length (ps.flatMap fun p => f p.1 p.2)
 args : ∀ p ∈ ps, w.ownsRow base 9 1 p.2 (ar p.1).length (strCells (ar p.1))
 apart : ps.Pairwise fun p q => ∀ k, p.2.ownBlock = some k → q.2.ownBlock ≠ some k
def z_j8 {α : Type} (v : Value) (ps : List (α × Value)) (k : Nat) : Prop := v.ownBlock = some k ∨ ∃ p ∈ ps, p.2.ownBlock = some k
section
variable {α : Type} {T : TypeId} {K : Nat} {f : α → Value → List Value} {ar : α → List ByteArray} {base : Nat} {w w' : World} {v : Value} {ps : List (α × Value)}
theorem OwnSt.lt (h : OwnSt T K f ar base w v ps) {k : Nat} (hk : z_j8 v ps k) : base ≤ k ∧ k < w.heap.size := by
 rcases hk with hk | ⟨p, hp, hk⟩
 ·exact h.row.lt k hk
 ·exact (h.args p hp).lt k hk
theorem OwnSt.keep (h : OwnSt T K f ar base w v ps) (hk : ∀ k, z_j8 v ps k → w'.heap[k]? = w.heap[k]?) : OwnSt T K f ar base w' v ps :=
 ⟨z_b9 h.row fun k e => hk k (.inl e), fun p hp => z_b9 (h.args p hp) fun k e => hk k (.inr ⟨p, hp, e⟩), h.apart⟩
theorem OwnSt.below (h : OwnSt T K f ar base w v ps) (hb : Below w.heap.size w w') : OwnSt T K f ar base w' v ps := h.keep fun k hk => hb.block k (h.lt hk).2
theorem OwnSt.mono {base' : Nat} (h : OwnSt T K f ar base w v ps) (hb : base' ≤ base) : OwnSt T K f ar base' w v ps := ⟨z_bh h.row hb, fun p hp => z_bh (h.args p hp) hb, h.apart⟩
theorem z_cD {base base' n n' K' : Nat} {T T' : TypeId} {v v' : Value} {xs xs' : List Value} (h : w.ownsRow base T K v n xs) (h' : w.ownsRow base' T' K' v' n' xs') (hT : T ≠ T') (k : Nat) (hk : v.ownBlock = some k) : v'.ownBlock ≠ some k := by
 intro hk'
 rcases h.2 with ⟨rfl, _⟩ | ⟨g, cap, cur, rfl, _, hg, _⟩
 ·simp [Value.ownBlock] at hk
 ·rcases h'.2 with ⟨rfl, _⟩ | ⟨g', cap', cur', rfl, _, hg', _⟩
  ·simp [Value.ownBlock] at hk'
  ·simp [Value.ownBlock] at hk hk'
   subst hk hk'
   rw [hg] at hg'
   simp at hg'
   exact hT hg'.2
theorem OwnSt.cell (h : OwnSt T K f ar base w v ps) (hK : ∀ a u, (f a u).length = K) {g n cap : Nat} (hv : v = .slice (some ⟨g, 0, none⟩) n cap) (i j : Nat) (hi : i < ps.length) (hj : j < K) (u : Value) (hu : (f ps[i].1 ps[i].2)[j]? = some u) : w.cell? ⟨g, i * K + j, none⟩ = some u := by
 subst hv
 obtain ⟨ao, cap', e, _⟩ := z_aq h.row
 cases e
 have hlt : i * K + j < ps.length * K := by
  have : (i + 1) * K ≤ ps.length * K := Nat.mul_le_mul_right _ hi
  rw [Nat.succ_mul] at this; omega
 rw [h.row.cellAt _ hlt, z_lt (F := fun p : α × Value => f p.1 p.2) (fun b => hK b.1 b.2) ps i j hi hj]
 exact hu
end
end
section
open Go.RowKit
def z_cf (ss : List ByteArray) (k : Nat) : List Value := (ss.take k).map Value.string ++ List.replicate (ss.length - k) (.string ByteArray.empty)
theorem z_kz (ss : List ByteArray) (k : Nat) (h : k < ss.length) : (z_cf ss k)[k]? = some (.string ByteArray.empty) := by
 unfold z_cf
 rw [List.getElem?_append_right (by simp; omega)]
 simp [List.getElem?_replicate]; omega
theorem z_jz (ss : List ByteArray) (k : Nat) (h : k < ss.length) : (z_cf ss k).set k (.string ss[k]) = z_cf ss (k + 1) := by
 unfold z_cf
 rw [List.set_append_right _ _ (by simp; omega), List.take_succ_eq_append_getElem h]
 have e : ss.length - k = (ss.length - (k + 1)) + 1 := by omega
 have e2 : k - (List.map Value.string (List.take k ss)).length = 0 := by simp; omega
 rw [e2, e, List.replicate_succ]
 simp only [List.set_cons_zero, List.map_append, List.map_cons, List.map_nil, List.append_assoc, List.singleton_append]
theorem z_j (ss : List ByteArray) : z_cf ss ss.length = strCells ss := by simp [z_cf, strCells]
theorem z_iI (ss : List ByteArray) : z_cf ss 0 = List.replicate ss.length (.string ByteArray.empty) := by simp [z_cf]
theorem z_g2 (ao : Option Addr) (cap : Nat) (ss : List ByteArray) (w : World) (hz : ss.length ≤ 1048576) (hi : StrsAt 0 w.heap.size w ao ss) :
  Calls Tryz.prog 73 #[.slice ao ss.length cap] w fun e w' => e = .returned (.slice (some ⟨w.heap.size, 0, none⟩) ss.length ss.length) ∧ Below w.heap.size w w' ∧ w'.ownsRow w.heap.size 9 1 (.slice (some ⟨w.heap.size, 0, none⟩) ss.length ss.length) ss.length (strCells ss) := by
 have HI : Hid (StrsAt 0 w.heap.size w ao ss) := hi
 clear hi
 obtain ⟨i0, hi0, hz0, hz1, hz2⟩ := info_parts Tryz.infoStr
 go_enter Tryz.func73, Tryz.ntmps73
 go_wp2_with (at_make; refine wpList_make_full _ rfl _ _ 45 rfl w.heap.size 9 i0 (.string ByteArray.empty) 1 Tryz.underlying45 hi0 hz0 hz1 _ _ _ _ ss.length rfl rfl rfl rfl (by rw [hz2]; omega) (by unfold maxLen; omega) (Nat.le_refl _) ?_; intro w1 hown hgrow)
 have hown' : w1.ownsRow w.heap.size 9 1 (.slice (some ⟨w.heap.size, 0, none⟩) ss.length ss.length) ss.length (z_cf ss 0) := by
  have e : (madeCells (Value.string ByteArray.empty).cells (ss.length * 1)).toList = List.replicate ss.length (.string ByteArray.empty) := by
   rw [Nat.mul_one]; exact toList_madeCells_one _ _
  rw [e] at hown
  rw [z_iI]; exact hown
 have hbel : Below w.heap.size w w1 := (Below.refl _ _).grown hgrow (Nat.le_refl _) (by simp)
 clear hown hgrow
 go_loopw [4] (fun i wr => ∃ k : Nat, k ≤ ss.length ∧ i = .int .i64 k ∧ wr.ownsRow w.heap.size 9 1 (.slice (some ⟨w.heap.size, 0, none⟩) ss.length ss.length) ss.length (z_cf ss k) ∧ Below w.heap.size w wr) (fun i _ => ss.length - (intOf i).toNat)
 case atStart => exact ⟨0, Nat.zero_le _, rfl, hown', hbel⟩
 case round =>
  clear hown' hbel
  obtain ⟨k, hk, rfl, hown, hbel⟩ := hrel
  by_cases hlt : k < ss.length
  ·obtain ⟨b, off, rfl, hB, hc⟩ := HI.out.at k hlt
   have hc2 := (hbel.cell (p := ⟨b, off + k, none⟩) hB.2).trans hc
   have hf := hown.frozenAt k
   have hold : wr.cell? ⟨w.heap.size, k, none⟩ = some (.string ByteArray.empty) := by
    rw [hown.cellAt k (by omega)]; exact z_kz ss k hlt
   have hst := hown.stored k (.string ss[k])
   have R : Hid ((wr.setCell ⟨w.heap.size, k, none⟩ (.string ss[k])).ownsRow w.heap.size 9 1 (.slice (some ⟨w.heap.size, 0, none⟩) ss.length ss.length) ss.length (z_cf ss (k + 1)) ∧ Below w.heap.size w (wr.setCell ⟨w.heap.size, k, none⟩ (.string ss[k]))) :=
    ⟨by rw [← z_jz ss k hlt]; exact hst.1, hbel.setCell (Nat.le_refl _) _⟩
   clear hst hown hbel
   go_wp2
   go_roundw
   case rel => exact ⟨k + 1, by omega, by go_num, R.out.1, R.out.2⟩
   case measure => simp [intOf]; omega
  ·go_wp2
   go_ret
   have e : k = ss.length := by omega
   subst e
   rw [z_j] at hown
   exact ⟨rfl, hbel, hown⟩
def z_o (l : Ln) (u : Value) : Value := .agg #[.int .i64 l.1, .string l.2.to, .string l.2.name, u, .string l.2.undo]
def lnC (l : Ln) (u : Value) : List Value := [.int .i64 l.1, .string l.2.to, .string l.2.name, u, .string l.2.undo]
theorem z_ly (l : Ln) (u : Value) : (lnC l u).length = 5 := rfl
def lnA (l : Ln) : List ByteArray := l.2.args
abbrev z_nQ := OwnSt 49 5 lnC lnA
theorem z_nX {w w1 : World} {a0 a1 a2 a3 a4 b0 b1 b2 b3 b4 c0 c1 c2 c3 c4 : Value} {s t u : TypeId}
  (h : Below (((w.alloc (.cells #[a0, a1, a2, a3, a4] s)).alloc (.cells #[b0, b1, b2, b3, b4] t)).alloc (.cells #[c0, c1, c2, c3, c4] u)).heap.size (((w.alloc (.cells #[a0, a1, a2, a3, a4] s)).alloc (.cells #[b0, b1, b2, b3, b4] t)).alloc (.cells #[c0, c1, c2, c3, c4] u)) w1) :
  Hid (Below w.heap.size w w1) ∧ w.heap.size + 3 ≤ w1.heap.size ∧ (w1.cell? ⟨w.heap.size, 0, none⟩ = some a0 ∧ w1.cell? ⟨w.heap.size, 1, none⟩ = some a1 ∧ w1.cell? ⟨w.heap.size, 2, none⟩ = some a2 ∧ w1.cell? ⟨w.heap.size, 3, none⟩ = some a3 ∧ w1.cell? ⟨w.heap.size, 4, none⟩ = some a4)
  ∧ (w1.cell? ⟨w.heap.size + 1, 0, none⟩ = some b0 ∧ w1.cell? ⟨w.heap.size + 1, 1, none⟩ = some b1 ∧ w1.cell? ⟨w.heap.size + 1, 2, none⟩ = some b2 ∧ w1.cell? ⟨w.heap.size + 1, 3, none⟩ = some b3 ∧ w1.cell? ⟨w.heap.size + 1, 4, none⟩ = some b4)
  ∧ (w1.cell? ⟨w.heap.size + 1 + 1, 0, none⟩ = some c0 ∧ w1.cell? ⟨w.heap.size + 1 + 1, 1, none⟩ = some c1 ∧ w1.cell? ⟨w.heap.size + 1 + 1, 2, none⟩ = some c2 ∧ w1.cell? ⟨w.heap.size + 1 + 1, 3, none⟩ = some c3 ∧ w1.cell? ⟨w.heap.size + 1 + 1, 4, none⟩ = some c4)
  ∧ (∀ j, w1.frozen? ⟨w.heap.size + 1, j, none⟩ = false) ∧ (∀ j, w1.frozen? ⟨w.heap.size + 1 + 1, j, none⟩ = false) := by
 have hB : Below w.heap.size w w1 := ((((Below.refl _ _).alloc (Nat.le_refl _) _).alloc (by simp) _).alloc (by simp; omega) _).trans (h.mono (by simp; omega))
 have hs : w.heap.size + 3 ≤ w1.heap.size := by have := h.size; simpa using this
 have hc0 := fun j => h.cell (p := ⟨w.heap.size, j, none⟩) (by simp; omega)
 have hc1 := fun j => h.cell (p := ⟨w.heap.size + 1, j, none⟩) (by simp)
 have hc2 := fun j => h.cell (p := ⟨w.heap.size + 1 + 1, j, none⟩) (by simp)
 have hf1 := fun j => h.frozen (p := ⟨w.heap.size + 1, j, none⟩) (by simp)
 have hf2 := fun j => h.frozen (p := ⟨w.heap.size + 1 + 1, j, none⟩) (by simp)
 refine ⟨hB, hs, ⟨?_, ?_, ?_, ?_, ?_⟩, ⟨?_, ?_, ?_, ?_, ?_⟩, ⟨?_, ?_, ?_, ?_, ?_⟩, fun j => ?_, fun j => ?_⟩
 all_goals first | (rw [hc0]; simp [go_sem]; done) | (rw [hc1]; simp [go_sem]; done) | (rw [hc2]; simp [go_sem]; done) | (rw [hf1]; simp [go_sem]; done) | (rw [hf2]; simp [go_sem]; done)
theorem z_fS (l : Ln) (ao : Option Addr) (cap : Nat) (w : World) (hz : l.2.args.length ≤ 1048576) (hi : StrsAt 0 w.heap.size w ao l.2.args) :
  Calls Tryz.prog 33 #[.agg #[.int .i64 l.1, .string l.2.to, .string l.2.name, .slice ao l.2.args.length cap, .string l.2.undo]] w fun e w' => ∃ u, e = .returned (z_o l u) ∧ Below w.heap.size w w' ∧ w'.ownsRow w.heap.size 9 1 u l.2.args.length (strCells l.2.args) := by
 have HI : Hid (StrsAt 0 w.heap.size w ao l.2.args) := hi
 clear hi
 obtain ⟨k, d⟩ := l
 simp only at HI hz ⊢
 go_enter Tryz.func33, Tryz.ntmps33
 go_wp2_with fail
 refine (z_g2 ao cap d.args _ hz (HI.out.later ((((Below.refl _ _).alloc (Nat.le_refl _) _).alloc (by simp) _).alloc (by simp; omega) _))).mono ?_
 rintro e w1 ⟨rfl, hb1, ho1⟩
 obtain ⟨HB, hs, ⟨x0, x1, x2, x3, x4⟩, ⟨y0, y1, y2, y3, y4⟩, ⟨z0, z1, z2, z3, z4⟩, f1, f2⟩ := z_nX hb1
 have ho2 : w1.ownsRow (w.heap.size + 1 + 1 + 1) 9 1 (.slice (some ⟨w.heap.size + 1 + 1 + 1, 0, none⟩) d.args.length d.args.length) d.args.length (strCells d.args) := by simpa using ho1
 have HO : Hid (w1.ownsRow (w.heap.size + 1 + 1 + 1) 9 1 (.slice (some ⟨w.heap.size + 1 + 1 + 1, 0, none⟩) d.args.length d.args.length) d.args.length (strCells d.args)) := ho2
 clear hb1 ho1 ho2
 go_wp2
 refine bodyPost_ret (v := .agg #[.int .i64 k, .string d.to, .string d.name, .slice (some ⟨w.heap.size + 1 + 1 + 1, 0, none⟩) d.args.length d.args.length, .string d.undo]) (by simp [results, Tryz.results33, go_sem, y0, y1, y2, y3, y4]) rfl ?_
 refine ⟨_, rfl, ?_, ?_⟩
 ·exact ((((((HB.out.setCell (by simp; omega) _).setCell (by simp; omega) _).setCell (by simp) _).setCell (by simp) _).setCell (by simp) _).setCell (by simp) _).setCell (by simp) _
 ·have hne1 : (Value.slice (some ⟨w.heap.size + 1 + 1 + 1, 0, none⟩) d.args.length d.args.length).ownBlock ≠ some (w.heap.size + 1 + 1) := by simp [Value.ownBlock]
  have hne2 : (Value.slice (some ⟨w.heap.size + 1 + 1 + 1, 0, none⟩) d.args.length d.args.length).ownBlock ≠ some (w.heap.size + 1) := by simp [Value.ownBlock]; omega
  exact z_bh (z_ad (z_ad (z_ad (z_ad (z_ad (z_ad (z_ad HO.out hne1 _) hne1 _) hne2 _) hne2 _) hne2 _) hne2 _) hne2 _) (by omega)
end
section
open Go.RowKit
theorem Tryz.infoLn : (Tryz.prog.info? 49).map (fun i => (i.zero, i.size, i.bytes)) = some (some (.agg #[.int .i64 0, .string ⟨#[]⟩, .string ⟨#[]⟩, .slice none 0 0, .string ⟨#[]⟩]), 5, 80) := by kernel_rfl
theorem z_of (A : List Value) (x0 x1 x2 x3 x4 : Value) (r : List Value) (c0 c1 c2 c3 c4 : Value) (n : Nat) (hn : n = A.length) :
  (((((A ++ x0 :: x1 :: x2 :: x3 :: x4 :: r).set n c0).set (n + 1) c1).set (n + 2) c2).set (n + 3) c3).set (n + 4) c4 = (A ++ [c0, c1, c2, c3, c4]) ++ r := by
 subst hn
 rw [List.set_append_right _ _ (by omega), List.set_append_right _ _ (by omega), List.set_append_right _ _ (by omega), List.set_append_right _ _ (by omega), List.set_append_right _ _ (by omega)]
 simp [Nat.add_sub_cancel_left]
theorem z_n {r : List Value} (h : 5 ≤ r.length) : ∃ x0 x1 x2 x3 x4 s, r = x0 :: x1 :: x2 :: x3 :: x4 :: s := by
 match r, h with
 | x0 :: x1 :: x2 :: x3 :: x4 :: s, _ => exact ⟨x0, x1, x2, x3, x4, s, rfl⟩
 | [], h => simp at h
 | [_], h => simp at h
 | [_, _], h => simp at h
 | [_, _, _], h => simp at h
 | [_, _, _, _], h => simp at h
theorem z_mu {w : World} {base n cap g : Nat} {e : TypeId} {xs : List Value} (h : w.ownsRow base e 5 (.slice (some ⟨g, 0, none⟩) n cap) n xs) (k : Nat) (u0 u1 u2 u3 u4 : Value) :
  (((((w.setCell ⟨g, k, none⟩ u0).setCell ⟨g, k + 1, none⟩ u1).setCell ⟨g, k + 2, none⟩ u2).setCell ⟨g, k + 3, none⟩ u3).setCell ⟨g, k + 4, none⟩ u4).ownsRow base e 5 (.slice (some ⟨g, 0, none⟩) n cap) n (((((xs.set k u0).set (k + 1) u1).set (k + 2) u2).set (k + 3) u3).set (k + 4) u4) :=
 z_cU (z_cU (z_cU (z_cU (z_cU h _ _) _ _) _ _) _ _) _ _
theorem z_ec {α : Type} {ps : List (α × Value)} {p : α × Value} (h : ps.Pairwise fun p q => ∀ k, p.2.ownBlock = some k → q.2.ownBlock ≠ some k) (hn : ∀ q ∈ ps, ∀ k, q.2.ownBlock = some k → p.2.ownBlock ≠ some k) :
  (ps ++ [p]).Pairwise fun p q => ∀ k, p.2.ownBlock = some k → q.2.ownBlock ≠ some k := by
 rw [List.pairwise_append]
 refine ⟨h, List.pairwise_singleton _ _, fun q hq x hx => ?_⟩
 have : x = p := by simpa using hx
 subst this
 exact hn q hq
theorem z_cr (ao : Option Addr) (cap : Nat) (ls : List Ln) (w : World) (hl : ls.length ≤ 1048576) (hz : ∀ l ∈ ls, LnSz l) (hi : LinesAt w.heap.size w ao ls) :
  Calls Tryz.prog 11 #[.slice ao ls.length cap] w fun e w' => ∃ ps : List (Ln × Value), e = .returned (.slice (some ⟨w.heap.size, 0, none⟩) ls.length ls.length) ∧ Below w.heap.size w w' ∧ ps.map (·.1) = ls ∧ z_nQ w.heap.size w' (.slice (some ⟨w.heap.size, 0, none⟩) ls.length ls.length) ps := by
 have HI : Hid (LinesAt w.heap.size w ao ls) := hi
 have HZ : Hid (∀ l ∈ ls, LnSz l) := hz
 clear hi hz
 obtain ⟨i0, hi0, hz0, hz1, hz2⟩ := info_parts Tryz.infoLn
 go_enter Tryz.func11, Tryz.ntmps11
 go_wp2_with (at_make; refine wpList_make_full _ rfl _ _ 27 rfl w.heap.size 49 i0 (.agg #[.int .i64 0, .string ⟨#[]⟩, .string ⟨#[]⟩, .slice none 0 0, .string ⟨#[]⟩]) 5 Tryz.underlying27 hi0 hz0 hz1 _ _ _ _ ls.length rfl rfl rfl rfl (by rw [hz2]; omega) (by unfold maxLen; omega) (Nat.le_refl _) ?_; intro w1 hown hgrow)
 have hbel : Below w.heap.size w w1 := (Below.refl _ _).grown hgrow (Nat.le_refl _) (by simp)
 obtain ⟨xs0, hxs0⟩ : ∃ xs0, xs0 = (madeCells (Value.agg #[.int .i64 0, .string ⟨#[]⟩, .string ⟨#[]⟩, .slice none 0 0, .string ⟨#[]⟩]).cells (ls.length * 5)).toList := ⟨_, rfl⟩
 rw [← hxs0] at hown
 clear hgrow hxs0
 go_loopw [4] (fun i wr => ∃ (k : Nat) (ps : List (Ln × Value)) (xs : List Value), k ≤ ls.length ∧ i = .int .i64 k ∧ ps.length = k ∧ Hid (ps.map (·.1) = ls.take k) ∧ Hid (wr.ownsRow w.heap.size 49 5 (.slice (some ⟨w.heap.size, 0, none⟩) ls.length ls.length) ls.length ((ps.flatMap fun p => lnC p.1 p.2) ++ xs)) ∧ Hid (∀ p ∈ ps, wr.ownsRow w.heap.size 9 1 p.2 (lnA p.1).length (strCells (lnA p.1))) ∧ Hid (ps.Pairwise fun p q => ∀ k, p.2.ownBlock = some k → q.2.ownBlock ≠ some k) ∧ Hid (Below w.heap.size w wr)) (fun i _ => ls.length - (intOf i).toNat)
 case atStart => exact ⟨0, [], xs0, Nat.zero_le _, rfl, rfl, by simp [Hid], by simpa [Hid] using hown, by simp [Hid], List.Pairwise.nil, hbel⟩
 case round =>
  clear hown hbel
  obtain ⟨k, ps, xs, hk, rfl, hpl, HM, HO, HA, HP, HB⟩ := hrel
  by_cases hlt : k < ls.length
  ·obtain ⟨b, off, rfl, hB, ao2, cap2, hc2, q0, q1, q2, q3, q4, hA⟩ := HI.out k hlt
   have c0 := (HB.out.cell (p := ⟨b, off + k * 5, none⟩) hB).trans q0
   have c1 := (HB.out.cell (p := ⟨b, off + k * 5 + 1, none⟩) hB).trans q1
   have c2 := (HB.out.cell (p := ⟨b, off + k * 5 + 2, none⟩) hB).trans q2
   have c3 := (HB.out.cell (p := ⟨b, off + k * 5 + 3, none⟩) hB).trans q3
   have c4 := (HB.out.cell (p := ⟨b, off + k * 5 + 4, none⟩) hB).trans q4
   have HAr : Hid (StrsAt 0 w.heap.size w ao2 ls[k].2.args) := hA
   have hsz := (HZ.out _ (List.getElem_mem hlt)).len
   have hgs := HB.out.size
   have hgr : w.heap.size < wr.heap.size := (HO.out.lt _ rfl).2
   clear q0 q1 q2 q3 q4 hA
   go_wp2_with fail
   refine (z_fS ls[k] ao2 cap2 _ hsz (HAr.out.later HB.out)).mono ?_
   rintro e w2 ⟨u, rfl, hb2, ho2⟩
   obtain ⟨uo, uc, rfl, huc⟩ := z_aq ho2
   have HU : Hid (w2.ownsRow wr.heap.size 9 1 (.slice uo ls[k].2.args.length uc) (lnA ls[k]).length (strCells (lnA ls[k]))) := ho2
   have HO2 : Hid (w2.ownsRow w.heap.size 49 5 (.slice (some ⟨w.heap.size, 0, none⟩) ls.length ls.length) ls.length ((ps.flatMap fun p => lnC p.1 p.2) ++ xs)) := z_ax HO.out hb2
   have hfl := z_d9 (F := fun p : Ln × Value => lnC p.1 p.2) (fun b => z_ly b.1 b.2) ps
   have hxl : 5 ≤ xs.length := by
    have h1 := HO2.out.1
    rw [List.length_append, hfl, hpl] at h1
    omega
   obtain ⟨x0, x1, x2, x3, x4, xr, rfl⟩ := z_n hxl
   have hcell : ∀ j, w2.cell? ⟨w.heap.size, k * 5 + j, none⟩ = if k * 5 + j < ls.length * 5 then (((ps.flatMap fun p => lnC p.1 p.2) ++ x0 :: x1 :: x2 :: x3 :: x4 :: xr)[k * 5 + j]?) else w2.cell? ⟨w.heap.size, k * 5 + j, none⟩ := fun j => by
    split
    ·rename_i h; exact HO2.out.cellAt _ h
    ·rfl
   have hnth : ∀ j, ((ps.flatMap fun p => lnC p.1 p.2) ++ x0 :: x1 :: x2 :: x3 :: x4 :: xr)[k * 5 + j]? = (x0 :: x1 :: x2 :: x3 :: x4 :: xr)[j]? := fun j => by
    rw [List.getElem?_append_right (by rw [hfl, hpl]; omega), hfl, hpl, Nat.add_sub_cancel_left]
   have d0 : w2.cell? ⟨w.heap.size, k * 5, none⟩ = some x0 := by have := hcell 0; rw [if_pos (by omega), hnth] at this; exact this
   have d1 : w2.cell? ⟨w.heap.size, k * 5 + 1, none⟩ = some x1 := by have := hcell 1; rw [if_pos (by omega), hnth] at this; exact this
   have d2 : w2.cell? ⟨w.heap.size, k * 5 + 2, none⟩ = some x2 := by have := hcell 2; rw [if_pos (by omega), hnth] at this; exact this
   have d3 : w2.cell? ⟨w.heap.size, k * 5 + 3, none⟩ = some x3 := by have := hcell 3; rw [if_pos (by omega), hnth] at this; exact this
   have d4 : w2.cell? ⟨w.heap.size, k * 5 + 4, none⟩ = some x4 := by have := hcell 4; rw [if_pos (by omega), hnth] at this; exact this
   have hf := HO2.out.frozenAt
   have HT : Hid (∀ (n : Nat) (u : Value) (xs : List Value), w2.ownsRow w.heap.size 9 1 u n xs → u.ownBlock ≠ some w.heap.size) := fun n u xs hu => z_cD HO2.out hu (by decide) _ rfl
   have HS := z_mu HO2.out (k * 5) (.int .i64 ls[k].1) (.string ls[k].2.to) (.string ls[k].2.name) (.slice uo ls[k].2.args.length uc) (.string ls[k].2.undo)
   rw [z_of _ _ _ _ _ _ _ _ _ _ _ _ (k * 5) (by rw [hfl, hpl])] at HS
   have HS2 : Hid _ := HS
   have HB2 : Hid (Below w.heap.size w w2) := HB.out.trans (hb2.mono hgs)
   have HA2 : Hid (∀ p ∈ ps, w2.ownsRow w.heap.size 9 1 p.2 (lnA p.1).length (strCells (lnA p.1))) := fun p hp => z_ax (HA.out p hp) hb2
   clear hcell hnth HS hb2 ho2 HO HO2
   unfold z_o
   go_wp2
   go_roundw
   case rel =>
    have far : ∀ (n : Nat) (u : Value) (xs : List Value), w2.ownsRow w.heap.size 9 1 u n xs → (((((w2.setCell ⟨w.heap.size, k * 5, none⟩ (.int .i64 ls[k].1)).setCell ⟨w.heap.size, k * 5 + 1, none⟩ (.string ls[k].2.to)).setCell ⟨w.heap.size, k * 5 + 2, none⟩ (.string ls[k].2.name)).setCell ⟨w.heap.size, k * 5 + 3, none⟩ (.slice uo ls[k].2.args.length uc)).setCell ⟨w.heap.size, k * 5 + 4, none⟩ (.string ls[k].2.undo)).ownsRow w.heap.size 9 1 u n xs := fun n u xs hu =>
     z_ad (z_ad (z_ad (z_ad (z_ad hu (HT.out _ _ _ hu) _) (HT.out _ _ _ hu) _) (HT.out _ _ _ hu) _) (HT.out _ _ _ hu) _) (HT.out _ _ _ hu) _
    refine ⟨k + 1, ps ++ [(ls[k], .slice uo ls[k].2.args.length uc)], xr, by omega, by go_num, by simp [hpl], ?_, ?_, ?_, ?_, ?_⟩
    ·show _ = _; rw [List.map_append, HM.out, List.take_succ_eq_append_getElem hlt]; rfl
    ·have e : ((ps ++ [(ls[k], Value.slice uo ls[k].2.args.length uc)]).flatMap fun p => lnC p.1 p.2) = (ps.flatMap fun p => lnC p.1 p.2) ++ [.int .i64 ls[k].1, .string ls[k].2.to, .string ls[k].2.name, .slice uo ls[k].2.args.length uc, .string ls[k].2.undo] := by
      rw [List.flatMap_append]; rfl
     show World.ownsRow _ _ _ _ _ _ _
     rw [e]; exact HS2.out
    ·intro q hq
     rcases List.mem_append.1 hq with hq | hq
     ·exact far _ _ _ (HA2.out q hq)
     ·have : q = (ls[k], Value.slice uo ls[k].2.args.length uc) := by simpa using hq
      subst this
      exact far _ _ _ (z_bh HU.out hgs)
    ·refine z_ec HP.out fun q hq j hj hj' => ?_
     have h1 := ((HA.out q hq).lt j hj).2
     have h2 := (HU.out.lt j hj').1
     omega
    ·exact ((((HB2.out.setCell (Nat.le_refl _) _).setCell (Nat.le_refl _) _).setCell (Nat.le_refl _) _).setCell (Nat.le_refl _) _).setCell (Nat.le_refl _) _
   case measure => simp [intOf]; omega
  ·go_wp2
   go_ret
   have e : k = ls.length := by omega
   have hx : xs = [] := by
    have h1 := HO.out.1
    rw [List.length_append, z_d9 (F := fun p : Ln × Value => lnC p.1 p.2) (fun b => z_ly b.1 b.2) ps, hpl, e] at h1
    exact List.length_eq_zero_iff.1 (by omega)
   have hm : ps.map (·.1) = ls := by rw [HM.out, e, List.take_length]
   refine ⟨ps, rfl, HB.out, hm, ?_, HA.out, HP.out⟩
   have hr := HO.out
   rw [hx, List.append_nil] at hr
   rw [hpl, e]; exact hr
end
section
open Go.RowKit
set_option linter.unusedVariables false
end
section
open Go.RowKit
set_option linter.unusedVariables false
end
end Go.Proofs.YtlbjjbolbopfmaaGreatDoor
