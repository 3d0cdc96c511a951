import Derived.Test.YtlbjjbolbopfmaaGreatDoorI09
import Derived.Test.YtlbjjbolbopfmaaGreatDoorI08
import Derived.Test.YtlbjjbolbopfmaaGreatDoorI01
import Derived.Deep.LoopGhost
import Derived.Deep.AppendLies
import Derived.Test.YtlbjjbolbopfmaaGreatDoorI07
import Derived.Test.YtlbjjbolbopfmaaGreatDoorSh
import Derived.Defers
namespace Go.Proofs.YtlbjjbolbopfmaaGreatDoor
set_option maxHeartbeats 4000000
set_option maxRecDepth 1000000
set_option linter.unusedVariables false
section
open Go.RowKit
def backL (l : Ln) : Bool := z_br l.1 l.2
theorem z_k9 (os : List Opn) (k : Int) (f : Bool) : (z_aR os k f).1.length ≤ os.length + 1 := by
 rw [z_aR]
 split
 ·simp
 split
 ·simp
 split
 ·simp
 split
 ·simp
 ·split
  ·simp
  split
  ·simp
  ·simp; omega
theorem z_ii {ls : List Ln} {k : Nat} (hk : k < ls.length) (h : backL ls[k] = false) : ¬ standB ls backL := fun hs => by
 have := hs.2.1 _ (List.getElem_mem hk)
 rw [h] at this; cases this
theorem z_ob {w w1 : World} {row : Option Nat} {x0 x1 x2 x3 x4 : Value} {t : TypeId} (hg : (w.alloc (.cells #[x0, x1, x2, x3, x4] t)).grownBy w1 row) (hne : ∀ k, row = some k → k < w.heap.size) :
  (w1.cell? ⟨w.heap.size, 0, none⟩ = some x0 ∧ w1.cell? ⟨w.heap.size, 1, none⟩ = some x1 ∧ w1.cell? ⟨w.heap.size, 2, none⟩ = some x2 ∧ w1.cell? ⟨w.heap.size, 3, none⟩ = some x3 ∧ w1.cell? ⟨w.heap.size, 4, none⟩ = some x4) ∧ w.heap.size < w1.heap.size := by
 have hb := hg.block w.heap.size (by simp) (fun e => by have := hne _ e.symm; omega)
 have hs := hg.size
 have hc : ∀ j, w1.cell? ⟨w.heap.size, j, none⟩ = (w.alloc (.cells #[x0, x1, x2, x3, x4] t)).cell? ⟨w.heap.size, j, none⟩ := fun j => World.cell?_of_block (a := ⟨w.heap.size, j, none⟩) hb
 refine ⟨⟨?_, ?_, ?_, ?_, ?_⟩, by simp at hs; omega⟩ <;> (rw [hc]; simp)
theorem checkStanding_some (ao : Option Addr) (cap : Nat) (ls : List Ln) (w : World) (h0 : 0 < ls.length) (hcap : ls.length ≤ cap) (hl : ls.length ≤ 60) (hi : LinesAt w.heap.size w ao ls) (hz : ∀ l ∈ ls, LnSz l) (he : Env w) :
    Calls Tryz.prog 61 #[.slice ao ls.length cap] w fun e w' => ∃ v, e = .returned v ∧ Below w.heap.size w w' ∧ ((v = .nilIface ∧ standB ls backL) ∨ (z_d8 v ∧ ¬ standB ls backL)) := by
  have HL : Hid (LinesAt w.heap.size w ao ls) := hi
  have HZ : Hid (∀ l ∈ ls, LnSz l) := hz
  have HE : Hid (Env w) := he
  have hne : ((ls.length : Int) == 0) = false := beq_eq_false_iff_ne.2 (by omega)
  clear hi hz he
  go_enter Tryz.func61, Tryz.ntmps61
  go_wp2
  go_loopw [3, 17] (fun x i wr => ∃ (k : Nat) (os : List Opn), k ≤ ls.length ∧ i = .int .i64 k ∧ os.length ≤ k ∧ Hid (wr.ownsRow w.heap.size 174 2 x os.length (z_aB os)) ∧ Hid (Below w.heap.size w wr) ∧ w.heap.size ≤ wr.heap.size ∧ Hid (z_aL true [] (z_bf (ls.take k)) = some os) ∧ Hid (∀ l ∈ ls.take k, backL l = true) ∧ Hid (k = ls.length → os = [])) (fun _ i _ => ls.length - (intOf i).toNat)
  case atStart => exact ⟨0, [], Nat.zero_le _, rfl, Nat.le_refl _, World.ownsRow_nil _ _ _ _, Below.refl _ _, Nat.le_refl _, rfl, by simp [Hid], fun h => by omega⟩
  case round =>
    obtain ⟨k, os, hk, rfl, hos, HO1, HB1, hws, HP, HA, HX⟩ := hrel
    obtain ⟨xo, xc, rfl, hxc⟩ := z_aq HO1.out
    by_cases hlt : k < ls.length
    · obtain ⟨b, off, rfl, hB, aoA, capA, hcA, q0, q1, q2, q3, q4, hA⟩ := HL.out k hlt
      have hlz := HZ.out _ (List.getElem_mem hlt)
      have c0 := (HB1.out.cell (p := ⟨b, off + k * 5, none⟩) hB).trans q0
      have c1 := (HB1.out.cell (p := ⟨b, off + k * 5 + 1, none⟩) hB).trans q1
      have c2 := (HB1.out.cell (p := ⟨b, off + k * 5 + 2, none⟩) hB).trans q2
      have c3 := (HB1.out.cell (p := ⟨b, off + k * 5 + 3, none⟩) hB).trans q3
      have c4 := (HB1.out.cell (p := ⟨b, off + k * 5 + 4, none⟩) hB).trans q4
      have HAr : Hid (StrsAt 0 w.heap.size w aoA ls[k].2.args) := hA
      have HST := z_gk hlt HP.out
      have HST' : Hid (z_aL true [] (z_bf (ls.take (k + 1))) = z_bo (decide (k = 0)) os ls[k].1) := HST
      obtain ⟨first, hfi⟩ : ∃ f : Bool, decide (k = 0) = f := ⟨_, rfl⟩
      rw [hfi] at HST'
      have hf : ((k : Int) == 0) = first := by
        rw [← hfi]; by_cases h : k = 0
        · subst h; rfl
        · have : ((k : Int) == 0) = false := by simp; omega
          rw [this, decide_eq_false h]
      clear q0 q1 q2 q3 q4 hA HST hfi
      obtain ⟨L, hL⟩ : ∃ L, L = ls[k] := ⟨_, rfl⟩
      rw [← hL] at c0 c1 c2 c3 c4 hlz HAr HST' hcA
      obtain ⟨kd, d⟩ := L
      have HBK : Hid (∀ bb, z_br kd d = bb → backL ls[k] = bb) := fun bb h => by rw [← hL]; exact h
      clear hL
      obtain ⟨z1, z2, z3, z4, z5⟩ := hlz
      have HZ5 : Hid (∀ s ∈ d.args, s.size ≤ 1048576) := z5
      clear z5
      simp only at c0 c1 c2 c3 c4 hcA z1 z2 z3 z4
      have hsl := z_k9 os kd first
      go_wp2_with fail
      refine (z_gt os _ kd first w.heap.size _ (by simp; omega) (by omega) (HO1.out.alloc _)).mono ?_
      rintro e w2 ⟨v2, rfl, hg2, ho2⟩
      obtain ⟨⟨x0, x1, x2, x3, x4⟩, hw2⟩ := z_ob hg2 (fun j hj => (HO1.out.lt j hj).2)
      have HB2 : Hid (Below w.heap.size w w2) := HB1.out.trans (((Below.refl _ _).alloc (Nat.le_refl _) _ |>.mono hws).trans (z_dy hg2 (by simp; omega) (fun j hj => (HO1.out.lt j hj).1)))
      obtain ⟨r, hr⟩ : ∃ r, r = z_aR os kd first := ⟨_, rfl⟩
      rw [← hr] at ho2 hsl ⊢
      have HR : Hid (r = z_aR os kd first) := hr
      clear hr hg2
      obtain ⟨os2, fits⟩ := r
      simp only at ho2 hsl ⊢
      obtain ⟨vo, vc, rfl, hvc⟩ := z_aq ho2
      have HO2 : Hid (w2.ownsRow w.heap.size 174 2 (.slice vo os2.length vc) os2.length (z_aB os2)) := ho2
      clear ho2
      have HSt : Hid (z_aL true [] (z_bf (ls.take (k + 1))) = if fits = true ∧ ¬ (z_am kd = true ∧ 5 ≤ os.length) then some os2 else none) := by
        show _ = _
        rw [HST'.out, z_bo, ← HR.out]
      have HA1 : Hid (backL ls[k] = true → ∀ l ∈ ls.take (k + 1), backL l = true) := by
        intro hb l hl
        rw [List.take_succ_eq_append_getElem hlt] at hl
        rcases List.mem_append.1 hl with h | h
        · exact HA.out l h
        · have : l = ls[k] := by simpa using h
          rw [this]; exact hb
      have combos : ∃ last some2 : Bool, ((k : Int) == (ls.length : Int) - 1) = last ∧ decide (0 < os2.length) = some2 ∧ Hid (last = true ↔ k + 1 = ls.length) ∧ Hid (some2 = true ↔ os2 ≠ []) := by
        refine ⟨_, _, rfl, rfl, ?_, ?_⟩
        · show _ ↔ _; simp; omega
        · show _ ↔ _
          rw [decide_eq_true_iff, ← List.length_pos_iff]
      obtain ⟨last, some2, hlast, hsome, HLa, HSo⟩ := combos
      have HI2 : Hid (StrsAt 0 w2.heap.size w2 aoA d.args) := HAr.out.later HB2.out
      have HE2 : Hid (Env w2) := HE.out.later HB2.out
      clear HST' HR HA HB1 HO1 HAr
      cases last <;> cases some2
      all_goals
        go_wp2_with fail
        refine (z_gv kd aoA capA d w2 hcA z1 z2 z3 z4 HZ5.out HI2.out HE2.out).mono ?_
        rintro e w3 ⟨rfl, hb3⟩
        have HB3 : Hid (Below w.heap.size w w3) := HB2.out.trans (hb3.mono (by omega))
        have HO3 : Hid (w3.ownsRow w.heap.size 174 2 (.slice vo os2.length vc) os2.length (z_aB os2)) := z_ay HO2.out hb3
        have y0 := (hb3.cell (p := ⟨wr.heap.size, 0, none⟩) hw2).trans x0
        have hws3 : w.heap.size ≤ w3.heap.size := by have := hb3.size; omega
        cases hbk : z_br kd d with
        | false =>
          have HN : Hid (¬ standB ls backL) := z_ii hlt (HBK.out _ hbk)
          clear hb3 x0 x1 x2 x3 x4
          go_wp2
          go_ret
          exact ⟨_, rfl, HB3.out, .inr ⟨⟨_, _, rfl, by decide⟩, HN.out⟩⟩
        | true =>
          have HBt : Hid (∀ l ∈ ls.take (k + 1), backL l = true) := HA1.out (HBK.out _ hbk)
          clear hb3 x0 x1 x2 x3 x4
          cases fits with
          | false =>
            have HN : Hid (¬ standB ls backL) := fun h => z_hn (k := k + 1) (by rw [HSt.out]; simp) h.2.2
            go_wp2
            go_ret
            exact ⟨_, rfl, HB3.out, .inr ⟨⟨_, _, rfl, by decide⟩, HN.out⟩⟩
          | true =>
            first
              | (have HN : Hid (¬ standB ls backL) := fun h => by
                   have h1 : k + 1 = ls.length := HLa.out.1 (by trivial)
                   have h2 := HSo.out.1 (by trivial)
                   have h3 := HSt.out
                   rw [h1, List.take_length, h.2.2] at h3
                   split at h3
                   · exact h2 (Option.some.inj h3).symm
                   · cases h3
                 go_wp2
                 go_ret
                 exact ⟨_, rfl, HB3.out, .inr ⟨⟨_, _, rfl, by decide⟩, HN.out⟩⟩)
              | (have HX2 : Hid (k + 1 = ls.length → os2 = []) := fun h => by
                   first
                     | exact Classical.byContradiction fun hn => Bool.false_ne_true (HSo.out.2 hn)
                     | exact absurd (HLa.out.2 h) Bool.false_ne_true
                 cases hop : z_am kd with
                 | false =>
                   have HP2 : Hid (z_aL true [] (z_bf (ls.take (k + 1))) = some os2) := by show _ = _; rw [HSt.out, if_pos ⟨rfl, fun h => by rw [hop] at h; cases h.1⟩]
                   go_wp2_with (go_at_call 84; refine (z_ba _ _).mono ?_; rintro e w3 ⟨rfl, rfl⟩; rw [hop])
                   go_roundw
                   case rel => exact ⟨k + 1, os2, by omega, by go_num, by omega, HO3, HB3, hws3, HP2, HBt, HX2⟩
                   case measure => simp [intOf]; omega
                 | true =>
                   by_cases h5 : 5 ≤ os.length
                   · have HN : Hid (¬ standB ls backL) := fun h => z_hn (k := k + 1) (by rw [HSt.out, if_neg (fun hh => hh.2 ⟨hop, h5⟩)]) h.2.2
                     have hd : decide (5 ≤ (os.length : Int)) = true := decide_eq_true (by omega)
                     have hd2 : decide (5 ≤ os.length) = true := decide_eq_true h5
                     go_wp2_with (go_at_call 84; refine (z_ba _ _).mono ?_; rintro e w3 ⟨rfl, rfl⟩; rw [hop])
                     go_ret
                     exact ⟨_, rfl, HB3.out, .inr ⟨⟨_, _, rfl, by decide⟩, HN.out⟩⟩
                   · have HP2 : Hid (z_aL true [] (z_bf (ls.take (k + 1))) = some os2) := by show _ = _; rw [HSt.out, if_pos ⟨rfl, fun h => h5 h.2⟩]
                     have hd : decide (5 ≤ (os.length : Int)) = false := decide_eq_false (by omega)
                     have hd2 : decide (5 ≤ os.length) = false := decide_eq_false h5
                     clear h5
                     go_wp2_with (go_at_call 84; refine (z_ba _ _).mono ?_; rintro e w3 ⟨rfl, rfl⟩; rw [hop])
                     go_roundw
                     case rel => exact ⟨k + 1, os2, by omega, by go_num, by omega, HO3, HB3, hws3, HP2, HBt, HX2⟩
                     case measure => simp [intOf]; omega)
    · have e0 : k = ls.length := by omega
      have HN : Hid (standB ls backL) := by
        have h1 := HP.out
        have h2 := HA.out
        rw [e0, List.take_length] at h1 h2
        rw [HX.out e0] at h1
        exact ⟨fun h => by rw [h] at h0; simp at h0, h2, h1⟩
      go_wp2
      go_ret
      exact ⟨_, rfl, HB1.out, .inl ⟨rfl, HN.out⟩⟩
end
section
open Go.RowKit
def WObj (w : World) (q : Nat) (a b v d : Value) : Prop := w.heap[q]? = some (.cells #[a, b, v, d] 135 (0, 0))
structure Wk (q : Nat) (row : Option Nat) (w w' : World) : Prop where
 os : w'.os = w.os
 tape : w'.tape = w.tape
 output : w'.output = w.output
 size : w.heap.size ≤ w'.heap.size
 block : ∀ k, k < w.heap.size → k ≠ q → some k ≠ row → w'.heap[k]? = w.heap[k]?
def RowTo (w : World) (v v' : Value) : Prop := v'.ownBlock = v.ownBlock ∨ ∀ k, v'.ownBlock = some k → w.heap.size ≤ k
section
variable {w w' w'' : World} {q : Nat} {a b v d : Value} {row row' : Option Nat}
theorem Wk.refl : Wk q row w w := ⟨rfl, rfl, rfl, Nat.le_refl _, fun _ _ _ _ => rfl⟩
theorem Wk.trans (h : Wk q row w w') (h' : Wk q row' w' w'') (hr : row' = row ∨ ∀ k, row' = some k → w.heap.size ≤ k) : Wk q row w w'' :=
 ⟨h'.os.trans h.os, h'.tape.trans h.tape, h'.output.trans h.output, Nat.le_trans h.size h'.size, fun k hk hq hne => (h'.block k (Nat.lt_of_lt_of_le hk h.size) hq (fun e => by
  rcases hr with hr | hr
  ·exact hne (e.trans hr)
  ·have := hr k e.symm; omega)).trans (h.block k hk hq hne)⟩
theorem Wk.of_below (h : Below w.heap.size w w') : Wk q row w w' := ⟨h.os, h.tape, h.output, h.size, fun k hk _ _ => h.block k hk⟩
theorem Wk.of_grown (h : w.grownBy w' row) : Wk q row w w' := ⟨h.os, h.tape, h.output, h.size, fun k hk _ hne => h.block k hk hne⟩
theorem Wk.of_set (j : Nat) (u : Value) : Wk q row w (w.setCell ⟨q, j, none⟩ u) := ⟨rfl, rfl, rfl, by simp [World.setCell], fun k _ hq _ => Below.heap_setCell w _ u k hq⟩
theorem Wk.below (h : Wk q row w w') (B : Nat) (hB : B ≤ q) (hw : B ≤ w.heap.size) (hr : ∀ k, row = some k → B ≤ k) : Below B w w' :=
 ⟨h.os, h.tape, h.output, h.size, fun k hk => h.block k (by omega) (by omega) (fun e => by have := hr k e.symm; omega)⟩
theorem Wk.cell (h : Wk q row w w') {x : Nat} (hx : x < w.heap.size) (hq : x ≠ q) (hr : some x ≠ row) (j : Nat) : w'.cell? ⟨x, j, none⟩ = w.cell? ⟨x, j, none⟩ := World.cell?_of_block (a := ⟨x, j, none⟩) (h.block x hx hq hr)
theorem Wk.frozen (h : Wk q row w w') {x : Nat} (hx : x < w.heap.size) (hq : x ≠ q) (hr : some x ≠ row) (j : Nat) : w'.frozen? ⟨x, j, none⟩ = w.frozen? ⟨x, j, none⟩ := World.frozen?_of_block (a := ⟨x, j, none⟩) (h.block x hx hq hr)
theorem RowTo.refl : RowTo w v v := .inl rfl
theorem RowTo.trans {v' v'' : Value} (h : RowTo w v v') (h' : RowTo w' v' v'') (hs : w.heap.size ≤ w'.heap.size) : RowTo w v v'' := by
 rcases h' with h' | h'
 ·rcases h with h | h
  ·exact .inl (h'.trans h)
  ·exact .inr fun k hk => h k (h' ▸ hk)
 ·exact .inr fun k hk => by have := h' k hk; omega
theorem RowTo.or {v' : Value} (h : RowTo w v v') : v'.ownBlock = v.ownBlock ∨ ∀ k, v'.ownBlock = some k → w.heap.size ≤ k := h
theorem WObj.lt (h : WObj w q a b v d) : q < w.heap.size := (Array.getElem?_eq_some_iff.1 h).1
theorem WObj.c0 (h : WObj w q a b v d) : w.cell? ⟨q, 0, none⟩ = some a := by rw [cell_of_row w q 0 _ _ _ h]; rfl
theorem WObj.c1 (h : WObj w q a b v d) : w.cell? ⟨q, 1, none⟩ = some b := by rw [cell_of_row w q 1 _ _ _ h]; rfl
theorem WObj.c2 (h : WObj w q a b v d) : w.cell? ⟨q, 2, none⟩ = some v := by rw [cell_of_row w q 2 _ _ _ h]; rfl
theorem WObj.c3 (h : WObj w q a b v d) : w.cell? ⟨q, 3, none⟩ = some d := by rw [cell_of_row w q 3 _ _ _ h]; rfl
theorem WObj.f (h : WObj w q a b v d) (j : Nat) : w.frozen? ⟨q, j, none⟩ = false := frozen_of_row w q j _ _ h
theorem WObj.keep (h : WObj w q a b v d) (hb : w'.heap[q]? = w.heap[q]?) : WObj w' q a b v d := hb.trans h
theorem WObj.below (h : WObj w q a b v d) (hb : Below w.heap.size w w') : WObj w' q a b v d := h.keep (hb.block q h.lt)
theorem WObj.set1 (h : WObj w q a b v d) (u : Value) : WObj (w.setCell ⟨q, 1, none⟩ u) q a u v d := heap_setCell_same w q 1 _ _ u h
theorem WObj.set2 (h : WObj w q a b v d) (u : Value) : WObj (w.setCell ⟨q, 2, none⟩ u) q a b u d := heap_setCell_same w q 2 _ _ u h
theorem WObj.set3 (h : WObj w q a b v d) (u : Value) : WObj (w.setCell ⟨q, 3, none⟩ u) q a b v u := heap_setCell_same w q 3 _ _ u h
theorem z_ad {base n size : Nat} {e : TypeId} {x : Value} {xs : List Value} (h : w.ownsRow base e size x n xs) {g j : Nat} (hne : x.ownBlock ≠ some g) (u : Value) : (w.setCell ⟨g, j, none⟩ u).ownsRow base e size x n xs := by
 refine ⟨h.1, ?_⟩
 rcases h.2 with hn | ⟨g', cap, cur, rfl, hb, hg, rest⟩
 ·exact .inl hn
 ·refine .inr ⟨g', cap, cur, rfl, hb, ?_, rest⟩
  rw [Below.heap_setCell w _ u g' (fun e => hne (by simp [Value.ownBlock, e]))]; exact hg
theorem z_b8 {base n size : Nat} {e : TypeId} {x : Value} {xs : List Value} (h : w.ownsRow base e size x n xs) (hk : ∀ k, x.ownBlock = some k → w'.heap[k]? = w.heap[k]?) : w'.ownsRow base e size x n xs := by
 refine ⟨h.1, ?_⟩
 rcases h.2 with hn | ⟨g', cap, cur, rfl, hb, hg, rest⟩
 ·exact .inl hn
 ·exact .inr ⟨g', cap, cur, rfl, hb, (hk g' rfl).trans hg, rest⟩
end
theorem z_hV (ks ss : List ByteArray) (k : Nat) (h : k < ss.length) : uniU ks (ss.take (k + 1)) = addU (uniU ks (ss.take k)) ss[k] := by
 rw [List.take_succ_eq_append_getElem h, z_bJ]; rfl
theorem z_mu (ks : List ByteArray) (s : ByteArray) : (addU ks s).length ≤ ks.length + 1 := by
 rw [addU]; split <;> simp
theorem z_by : ∀ (ss ks : List ByteArray), (uniU ks ss).length ≤ ks.length + ss.length
 | [], ks => by simp [uniU]
 | s :: r, ks => by
  have h1 := z_by r (addU ks s)
  have h2 := z_mu ks s
  show (uniU (addU ks s) r).length ≤ _
  simp only [List.length_cons]; omega
end
section
open Go.RowKit
theorem z_cN (q o : Nat) (v : Value) (ks : List ByteArray) (s : ByteArray) (base : Nat) (w : World) (hl : ks.length ≤ 4398046511104) (hc : w.cell? ⟨q, o, none⟩ = some v) (ho : w.ownsRow base 9 1 v ks.length (strCells ks)) :
  Calls Tryz.prog 126 #[.pointer (some ⟨q, o, none⟩), .string s] w fun e w' => e = .returned (.bool (hasB ks s)) ∧ w' = w := by
 obtain ⟨ao, cap, rfl, hcap, hi⟩ := StrsAt.of_owns ho
 have HI : Hid (StrsAt base w.heap.size w ao ks) := hi
 clear hi ho
 go_enter Tryz.func126, Tryz.ntmps126
 go_wp2_with (go_at_call 162; refine (z_bN ao cap ks s w.heap.size w (by omega) (HI.out.mono (Nat.zero_le _) (Nat.le_refl _))).mono ?_; rintro e w' ⟨rfl, rfl⟩)
 go_ret
 exact ⟨rfl, rfl⟩
theorem z_fU (q o : Nat) (ao : Option Addr) (n cap : Nat) (w : World) (hl : n ≤ 4398046511104) (hc : w.cell? ⟨q, o, none⟩ = some (.slice ao n cap)) :
  Calls Tryz.prog 127 #[.pointer (some ⟨q, o, none⟩)] w fun e w' => e = .returned (.int .i64 n) ∧ w' = w := by
 go_enter Tryz.func127, Tryz.ntmps127
 go_wp2
 go_ret
 exact ⟨rfl, rfl⟩
end
section
open Go.RowKit
theorem z_oa {w0 w w3 : World} {q base g' cap' : Nat} {a b v0 v d : Value} {A : List ByteArray} {x : ByteArray} {t : TypeId} {row : Option Nat} (hq : WObj w q a b v d) (ho : w.ownsRow base 9 1 v A.length (strCells A)) (hqb : q < base) (hbase : base ≤ w0.heap.size)
  (hk : Wk q v0.ownBlock w0 w) (hr : RowTo w0 v0 v)
  (hown : w3.ownsRow base 9 1 (.slice (some ⟨g', 0, none⟩) (A.length + 1) cap') (A.length + 1) (strCells A ++ [.string x])) (hgrow : (w.alloc (.cells #[.string x] t)).grownBy w3 row) (hat : row = some g' ∨ g' = w.heap.size + 1) (hrow : row = v.ownBlock) :
  Aside (WObj w3 q a b v d ∧ WObj (w3.setCell ⟨q, 2, none⟩ (.slice (some ⟨g', 0, none⟩) (A.length + 1) cap')) q a b (.slice (some ⟨g', 0, none⟩) (A.length + 1) cap') d ∧
   (w3.setCell ⟨q, 2, none⟩ (.slice (some ⟨g', 0, none⟩) (A.length + 1) cap')).ownsRow base 9 1 (.slice (some ⟨g', 0, none⟩) (A.length + 1) cap') (A ++ [x]).length (strCells (A ++ [x])) ∧
   Wk q v0.ownBlock w0 (w3.setCell ⟨q, 2, none⟩ (.slice (some ⟨g', 0, none⟩) (A.length + 1) cap')) ∧ RowTo w0 v0 (.slice (some ⟨g', 0, none⟩) (A.length + 1) cap')) := by
 subst hrow
 have hne : some q ≠ v.ownBlock := fun e => by have := (ho.lt _ e.symm).1; omega
 have hb1 : Below w.heap.size w (w.alloc (.cells #[.string x] t)) := (Below.refl _ _).alloc (Nat.le_refl _) _
 have h1 : WObj w3 q a b v d := (hq.below hb1).keep (hgrow.block q (by have := hq.lt; simp; omega) hne)
 have hw3 : Wk q v0.ownBlock w0 w3 := (hk.trans (Wk.of_below (row := v0.ownBlock) hb1) (.inl rfl)).trans (Wk.of_grown hgrow) hr
 have hg' : base ≤ g' := by
  have := (hown.lt g' rfl).1; omega
 refine ⟨h1, h1.set2 _, ?_, hw3.trans (Wk.of_set (row := v0.ownBlock) 2 _) (.inl rfl), ?_⟩
 ·have h2 := z_ad hown (g := q) (j := 2) (by simp [Value.ownBlock]; omega) (.slice (some ⟨g', 0, none⟩) (A.length + 1) cap')
  simpa [strCells] using h2
 ·rcases hat with h | h
  ·rcases hr with h' | h'
   ·exact .inl (by rw [← h', h]; rfl)
   ·exact .inr fun k hk => by
     have : g' = k := by simpa [Value.ownBlock] using hk
     exact h' k (by rw [h, this])
  ·exact .inr fun k hk' => by
    have h1 : g' = k := by simpa [Value.ownBlock] using hk'
    have h2 := hk.size
    omega
theorem z_dK (q : Nat) (a b v d : Value) (ks ss : List ByteArray) (aoS : Option Addr) (cS : Nat) (base : Nat) (w : World) (hq : WObj w q a b v d) (ho : w.ownsRow base 9 1 v ks.length (strCells ks)) (hqb : q < base) (hbase : base ≤ w.heap.size)
  (hi : StrsAt 0 w.heap.size w aoS ss) (hsep : 0 < ss.length → ∀ p, aoS = some p → p.block ≠ q ∧ some p.block ≠ v.ownBlock) (hl : ks.length + ss.length ≤ 4398046511000) :
  Calls Tryz.prog 94 #[.pointer (some ⟨q, 2, none⟩), .slice aoS ss.length cS] w fun e w' => ∃ v', e = .returned (.tuple #[]) ∧ WObj w' q a b v' d ∧ w'.ownsRow base 9 1 v' (uniU ks ss).length (strCells (uniU ks ss)) ∧ Wk q v.ownBlock w w' ∧ RowTo w v v' := by
 obtain ⟨i0, hi0, hz0, hz1, hz2⟩ := info_parts Tryz.infoStr
 have HQ : Hid (WObj w q a b v d) := hq
 have HO : Hid (w.ownsRow base 9 1 v ks.length (strCells ks)) := ho
 have HI : Hid (StrsAt 0 w.heap.size w aoS ss) := hi
 have HS : Hid (0 < ss.length → ∀ p, aoS = some p → p.block ≠ q ∧ some p.block ≠ v.ownBlock) := hsep
 clear hq ho hi hsep
 go_enter Tryz.func94, Tryz.ntmps94
 go_wp2
 go_loopw [8] (fun i wr => ∃ (k : Nat) (v' : Value), k ≤ ss.length ∧ i = .int .i64 k ∧ Hid (WObj wr q a b v' d) ∧ Hid (wr.ownsRow base 9 1 v' (uniU ks (ss.take k)).length (strCells (uniU ks (ss.take k)))) ∧ Hid (Wk q v.ownBlock w wr) ∧ Hid (RowTo w v v')) (fun i _ => ss.length - (intOf i).toNat)
 case atStart => exact ⟨0, v, Nat.zero_le _, rfl, HQ, HO, Wk.refl, RowTo.refl⟩
 case round =>
  obtain ⟨k, v', hk, rfl, HQ1, HO1, HK1, HR1⟩ := hrel
  by_cases hlt : k < ss.length
  ·obtain ⟨bS, oS, rfl, hB, hcS0⟩ := HI.out.at k hlt
   obtain ⟨s1, s2⟩ := HS.out (by omega) _ rfl
   have hcS := (HK1.out.cell hB.2 s1 s2 (oS + k)).trans hcS0
   obtain ⟨x, hx⟩ : ∃ x, x = ss[k] := ⟨_, rfl⟩
   rw [← hx] at hcS
   have HU : Hid (uniU ks (ss.take (k + 1)) = addU (uniU ks (ss.take k)) x) := by rw [hx]; exact z_hV ks ss k hlt
   have hlu := z_by (ss.take k) ks
   have hlt2 : (ss.take k).length ≤ k := List.length_take_le _ _
   obtain ⟨A, hA⟩ : ∃ A, A = uniU ks (ss.take k) := ⟨_, rfl⟩
   rw [← hA] at HO1 HU hlu
   have HQc : wr.cell? ⟨q, 2, none⟩ = some v' := HQ1.out.c2
   have hwr := HK1.out.size
   clear hA hcS0 hx s1 s2
   cases hh : hasB A x with
   | true =>
    have HN : Hid (uniU ks (ss.take (k + 1)) = A) := by show _ = _; rw [HU.out, addU, if_pos hh]
    go_wp2_with (go_at_call 126; refine (z_cN q 2 v' A x base wr (by omega) HQc HO1.out).mono ?_; rintro e wr ⟨rfl, rfl⟩; rw [hh])
    go_roundw
    case rel => exact ⟨k + 1, v', by omega, by go_num, HQ1, (show Hid _ by rw [HN.out]; exact HO1), HK1, HR1⟩
    case measure => simp [intOf]; omega
   | false =>
    have HN : Hid (uniU ks (ss.take (k + 1)) = A ++ [x]) := by show _ = _; rw [HU.out, addU, hh]; rfl
    go_wp2_with (first
     | (go_at_call 126; refine (z_cN q 2 v' A x base wr (by omega) HQc HO1.out).mono ?_; rintro e wr ⟨rfl, rfl⟩; rw [hh])
     | (at_builtin; refine wpList_append_lies _ rfl _ _ 45 rfl base 9 i0 (.string ByteArray.empty) 1 16 Tryz.underlying45 hi0 hz0 hz1 hz2 rfl (by decide) _ _ _ rfl (HO1.out.alloc _) ⟨wr.heap.size, 0, none⟩ 1 1 [.string x] rfl rfl (cell_one_new _ _ _) (fun u hu => by simp at hu; subst hu; rfl) (by decide) (by unfold maxLen; omega) (by omega) (by simp; omega) (wr.heap.size + 1) (by simp) ?_; intro g' cap' w3 hown' hgrow3 hat3 hlt3; have X := z_oa HQ1.out HO1.out hqb hbase HK1.out HR1.out hown' hgrow3 hat3 (by rfl); have HF3 := X.out.1.f 2; have HC3 := X.out.1.c2; clear hown' hgrow3 hat3 hlt3))
    go_roundw
    case rel => exact ⟨k + 1, _, by omega, by go_num, X.out.2.1, (show Hid _ by rw [HN.out]; exact X.out.2.2.1), X.out.2.2.2.1, X.out.2.2.2.2⟩
    case measure => simp [intOf]; omega
  ·have e0 : ss.take k = ss := List.take_of_length_le (by omega)
   rw [e0] at HO1
   go_wp2
   go_end0
   exact ⟨v', rfl, HQ1.out, HO1.out, HK1.out, HR1.out⟩
end
section
open Go.RowKit
theorem z_m {w : World} {base g n cap : Nat} {xs : List ByteArray} (h : w.ownsRow base 9 1 (.slice (some ⟨g, 0, none⟩) n cap) n (strCells xs)) (j : Nat) (hj : j < xs.length) : w.cell? ⟨g, j, none⟩ = some (.string (xs.getD j ByteArray.empty)) := by
 have hl : n = xs.length := by have := h.1; simp [strCells] at this; omega
 rw [h.cellAt j (by omega)]
 simp [strCells, hj, List.getD]
theorem z_c3 (q o : Nat) (v : Value) (pre g : List ByteArray) (base : Nat) (w : World) (hl : pre.length + g.length ≤ 4398046511104) (hc : w.cell? ⟨q, o, none⟩ = some v) (ho : w.ownsRow base 9 1 v (pre ++ g).length (strCells (pre ++ g))) :
  Calls Tryz.prog 131 #[.pointer (some ⟨q, o, none⟩), .int .i64 pre.length] w fun e w' => ∃ gv, e = .returned gv ∧ w'.ownsRow w.heap.size 9 1 gv g.length (strCells g) ∧ Below w.heap.size w w' := by
 rcases ho.2 with ⟨rfl, h0⟩ | ⟨gb, cap, cur, rfl, _, _, hn, hm, _⟩
 ·rw [List.length_append] at h0
  have e1 : pre = [] := List.length_eq_zero_iff.1 (by omega)
  have e2 : g = [] := List.length_eq_zero_iff.1 (by omega)
  subst e1 e2
  clear ho h0
  go_enter Tryz.func131, Tryz.ntmps131
  go_wp2_with (go_at_call 170; refine (Tryz.slices_Clone_string_nil 0 0 w).mono ?_; rintro e w ⟨rfl, rfl⟩)
  go_ret
  exact ⟨_, rfl, World.ownsRow_nil _ _ _ _, Below.refl _ _⟩
 ·have hcell : ∀ j, j < (pre ++ g).length → w.cell? ⟨gb, j, none⟩ = some (.string ((pre ++ g).getD j ByteArray.empty)) := fun j hj => z_m ho j hj
  have HC : Hid (∀ j, j < g.length → w.cell? ⟨gb, pre.length + j, none⟩ = some (.string (g.getD j ByteArray.empty))) := fun j hj => by
   rw [hcell _ (by simp; omega)]
   simp [List.getD, List.getElem?_append_right]
  have hlen : (pre ++ g).length = pre.length + g.length := by simp
  rw [hlen] at hc hn
  have hcap : cap ≤ 9223372036854775807 := by unfold maxLen at hm; omega
  clear ho hcell hm
  by_cases hg0 : g.length = 0
  ·have e2 : g = [] := List.length_eq_zero_iff.1 hg0
   subst e2
   simp only [List.length_nil, Nat.add_zero] at hc hn
   clear hlen hg0
   by_cases hpc : pre.length < cap
   ·go_enter Tryz.func131, Tryz.ntmps131
    go_wp2_with (go_at_call 170; refine (Tryz.slices_Clone_string_zero _ _ w).mono ?_; rintro e w1 ⟨v', rfl, ho', _, hb⟩)
    go_ret
    exact ⟨_, rfl, ho', hb⟩
   ·have e3 : pre.length = cap := by omega
    go_enter Tryz.func131, Tryz.ntmps131
    go_wp2_with (go_at_call 170; refine (Tryz.slices_Clone_string_zero _ _ w).mono ?_; rintro e w1 ⟨v', rfl, ho', _, hb⟩)
    go_ret
    exact ⟨_, rfl, ho', hb⟩
  ·have hpc : pre.length < cap := by omega
   go_enter Tryz.func131, Tryz.ntmps131
   go_wp2_with (go_at_call 170; refine (Tryz.slices_Clone_string gb pre.length g.length (cap - pre.length) g w (Nat.le_refl _) (by omega) HC.out).mono ?_; rintro e w1 ⟨v', rfl, ho', _, hb⟩)
   go_ret
   rw [List.take_length] at ho'
   exact ⟨_, rfl, ho', hb⟩
theorem z_cw (q : Nat) (a b v d : Value) (pre g : List ByteArray) (base : Nat) (u : FrameMode) (w : World) (hl : pre.length + g.length ≤ 4398046511104) (hq : WObj w q a b v d) (ho : w.ownsRow base 9 1 v (pre ++ g).length (strCells (pre ++ g))) (hqb : q < base) :
  CallsD Tryz.prog 128 #[.pointer (some ⟨q, 2, none⟩), .int .i64 pre.length] u w fun e u' w' => u' = u ∧ ∃ v', e = .returned (.tuple #[]) ∧ WObj w' q a b v' d ∧ w'.ownsRow base 9 1 v' pre.length (strCells pre) ∧ Wk q v.ownBlock w w' ∧ v'.ownBlock = v.ownBlock := by
 have c2 := hq.c2
 have f2 := hq.f 2
 rcases ho.2 with ⟨rfl, h0⟩ | ⟨gb, cap, cur, rfl, hgb, _, hn, hm, _⟩
 ·rw [List.length_append] at h0
  have e1 : pre = [] := List.length_eq_zero_iff.1 (by omega)
  subst e1
  have hq2 := hq.set2 (.slice none 0 0)
  clear hq ho
  go_enter_d Tryz.func128, Tryz.ntmps128
  go_wp2
  go_end0
  exact ⟨_, rfl, hq2, World.ownsRow_nil _ _ _ _, Wk.of_set _ _, rfl⟩
 ·have hlen : (pre ++ g).length = pre.length + g.length := by simp
  have HT := z_gP ho pre.length (by omega)
  rw [hlen] at c2 hn
  have hcap : cap ≤ 9223372036854775807 := by unfold maxLen at hm; omega
  have HT2 : Hid (w.ownsRow base 9 1 (.slice (some ⟨gb, 0, none⟩) pre.length cap) pre.length (strCells pre)) := by
   have e : (strCells (pre ++ g)).take (pre.length * 1) = strCells pre := by
    simp [strCells]
   rw [e] at HT; exact HT
  have hq2 := hq.set2 (.slice (some ⟨gb, 0, none⟩) pre.length cap)
  have HQ2 : Hid (WObj (w.setCell ⟨q, 2, none⟩ (.slice (some ⟨gb, 0, none⟩) pre.length cap)) q a b (.slice (some ⟨gb, 0, none⟩) pre.length cap) d) := hq2
  clear hq ho HT hq2 hm
  go_enter_d Tryz.func128, Tryz.ntmps128
  go_wp2
  go_end0
  exact ⟨_, rfl, HQ2.out, z_ad HT2.out (by simp [Value.ownBlock]; omega) _, Wk.of_set _ _, rfl⟩
end
section
def gOf (ks k : List ByteArray) : List ByteArray := k.drop ks.length
theorem z_kX (ks g : List ByteArray) : gOf ks (ks ++ g) = g := by simp [gOf]
def z_bA (ks : List ByteArray) (both : Bool) (t : Bl) : Option (List ByteArray × Bool) := (z_al ks both true t).map fun r => (gOf ks r.1, r.2)
theorem z_cm {ks : List ByteArray} {both : Bool} {t : Bl} {g : List ByteArray} {c : Bool} (h : z_bA ks both t = some (g, c)) : z_al ks both true t = some (ks ++ g, c) ∧ News ks g := by
 unfold z_bA at h
 cases hc : z_al ks both true t with
 | none => rw [hc] at h; cases h
 | some r =>
  obtain ⟨k, c'⟩ := r
  obtain ⟨g', rfl, hn⟩ := z_bO t ks both true k c' hc
  rw [hc] at h
  simp only [Option.map_some, z_kX, Option.some.injEq, Prod.mk.injEq] at h
  obtain ⟨rfl, rfl⟩ := h
  exact ⟨rfl, hn⟩
theorem z_db {ks : List ByteArray} {both : Bool} {t : Bl} (h : z_bA ks both t = none) : z_al ks both true t = none := by
 unfold z_bA at h
 cases hc : z_al ks both true t with
 | none => rfl
 | some r => rw [hc] at h; cases h
def z_cu (ks : List ByteArray) (both : Bool) : Bl → Option (List ByteArray × Bool)
 | .nil => none
 | .plain l _ => some (if l.2.to.toList.isEmpty = true then [] else [l.2.to], !z_a3 l.1)
 | .one _ p _ _ => match z_bA ks both p with
  | none => none
  | some _ => some ([], true)
 | .two l p _ q _ _ => match z_bA ks (both || (l.1 == 9)) p with
  | none => none
  | some (g1, c1) => match z_bA ks (both || (l.1 == 9)) q with
   | none => none
   | some (g2, c2) => if l.1 = 9 then (if z_a4 p.flat q.flat = true then none else some (g1 ++ g2, true)) else if c1 = false then some (g2, c2) else if c2 = false then some (g1, true) else some (comm g1 g2, true)
def z_au : Bl → Ln
 | .nil => (0, ⟨eS, eS, [], eS⟩)
 | .plain l _ => l
 | .one l _ _ _ => l
 | .two l _ _ _ _ _ => l
def z_aN : Bl → Bl
 | .nil => .nil
 | .plain _ r => r
 | .one _ _ _ r => r
 | .two _ _ _ _ _ r => r
def z_ai : Bl → Nat
 | .nil => 0
 | .plain _ _ => 1
 | .one _ p _ _ => p.flat.length + 2
 | .two _ p _ q _ _ => p.flat.length + q.flat.length + 3
def z_aS : Bl → Bool
 | .nil => false
 | _ => true
theorem z_b9 (t : Bl) : t.flat.length = z_ai t + (z_aN t).flat.length := by
 cases t <;> simp [Bl.flat, z_ai, z_aN] <;> omega
theorem z_cD {t : Bl} {ls rest : List Ln} {n : Nat} (h : ls.drop n = t.flat ++ rest) : ls.drop (n + z_ai t) = (z_aN t).flat ++ rest := by
 rw [← List.drop_drop, h]
 cases t with
 | nil => simp [z_ai, z_aN, Bl.flat]
 | plain l r => simp [z_ai, z_aN, Bl.flat]
 | one l p e r =>
  simp only [z_ai, z_aN, Bl.flat]
  rw [show l :: (p.flat ++ e :: r.flat) ++ rest = (l :: (p.flat ++ [e])) ++ (r.flat ++ rest) by simp, List.drop_left' (by simp)]
 | two l p m q e r =>
  simp only [z_ai, z_aN, Bl.flat]
  rw [show l :: (p.flat ++ m :: (q.flat ++ e :: r.flat)) ++ rest = (l :: (p.flat ++ m :: (q.flat ++ [e]))) ++ (r.flat ++ rest) by simp, List.drop_left' (by simp; omega)]
theorem z_b2 {t : Bl} {ls rest : List Ln} {n : Nat} (h : ls.drop n = t.flat ++ rest) (hn : z_aS t = true) : ∃ hl : n < ls.length, ls[n] = z_au t := by
 have hne : ls.drop n ≠ [] := by rw [h]; cases t <;> simp [Bl.flat, z_aS] at hn ⊢
 have hl : n < ls.length := by
  rcases Nat.lt_or_ge n ls.length with h | h
  ·exact h
  ·exact absurd (List.drop_eq_nil_of_le h) hne
 refine ⟨hl, ?_⟩
 have e := List.drop_eq_getElem_cons hl
 rw [h] at e
 cases t with
 | nil => cases hn
 | plain l r => simp only [Bl.flat, List.cons_append, List.cons.injEq] at e; exact e.1.symm
 | one l p x r => simp only [Bl.flat, List.cons_append, List.cons.injEq] at e; exact e.1.symm
 | two l p m q x r => simp only [Bl.flat, List.cons_append, List.cons.injEq] at e; exact e.1.symm
theorem z_cE {t : Bl} (hn : z_aS t = true) (hw : t.wf) : z_ae (z_au t).1 = false := by
 cases t with
 | nil => cases hn
 | plain l r => exact hw.2.1
 | one l p x r =>
  have := hw.1
  rw [z_bX] at this
  show z_ae l.1 = false
  rcases this with h | h | h | h <;> rw [h] <;> rfl
 | two l p m q x r =>
  show z_ae l.1 = false
  rcases hw.1 with ⟨h, _⟩ | ⟨h, _⟩
  ·rw [z_bK] at h; rcases h with h | h <;> rw [h] <;> rfl
  ·rw [h]; rfl
theorem z_eg {t : Bl} (hw : t.wf) : (z_aN t).wf := by
 cases t with
 | nil => trivial
 | plain l r => exact hw.2.2.2
 | one l p x r => exact hw.2.2.2.2
 | two l p m q x r => exact hw.2.2.2.2
theorem z_dC (ks : List ByteArray) (both live : Bool) (t : Bl) (hn : z_aS t = true) : z_al ks both live t = if z_bl ks both live (z_au t) = true then (match z_cu ks both t with | none => none | some (g, c) => z_al (uniU ks g) both c (z_aN t)) else none := by
 cases t with
 | nil => cases hn
 | plain l r =>
  by_cases hlo : z_bl ks both live l = true
  ·simp only [z_al, z_au, z_cu, z_aN, hlo, if_true]
   congr 1
   unfold z_cY
   split <;> rfl
  ·rw [z_al, if_neg hlo]; exact (if_neg hlo).symm
 | one l p e r =>
  by_cases hlo : z_bl ks both live l = true
  ·simp only [z_al, z_au, z_cu, z_aN, hlo, if_true]
   cases hp : z_bA ks both p with
   | none => rw [z_db hp]
   | some x =>
    obtain ⟨g, c⟩ := x
    rw [(z_cm hp).1]; rfl
  ·rw [z_al, if_neg hlo]; exact (if_neg hlo).symm
 | two l p m q e r =>
  by_cases hlo : z_bl ks both live l = true
  ·simp only [z_al, z_au, z_cu, z_aN, hlo, if_true]
   cases hp : z_bA ks (both || (l.1 == 9)) p with
   | none => rw [z_db hp]
   | some x =>
    obtain ⟨g1, c1⟩ := x
    obtain ⟨h1, n1⟩ := z_cm hp
    rw [h1]
    cases hq : z_bA ks (both || (l.1 == 9)) q with
    | none => rw [z_db hq]
    | some y =>
     obtain ⟨g2, c2⟩ := y
     obtain ⟨h2, n2⟩ := z_cm hq
     rw [h2]
     simp only
     by_cases h9 : l.1 = 9
     ·simp only [if_pos h9]
      by_cases hc : z_a4 p.flat q.flat = true
      ·simp only [if_pos hc]
      ·simp only [if_neg hc]; rw [z_he ks g1 g2 n1]
     ·simp only [if_neg h9]
      by_cases hc1 : c1 = false
      ·simp only [if_pos hc1]; rw [z_bW g2 ks n2]
      ·simp only [if_neg hc1]
       by_cases hc2 : c2 = false
       ·simp only [if_pos hc2]; rw [z_bW g1 ks n1]
       ·simp only [if_neg hc2]; rw [z_bW (comm g1 g2) ks (z_iW n1), z_fr ks g1 g2 n1]
  ·rw [z_al, if_neg hlo]; exact (if_neg hlo).symm
theorem z_lR (a b : List ByteArray) : (comm a b).length ≤ a.length := List.length_filter_le _ _
theorem z_hC (n : Nat) : ∀ (t : Bl), t.flat.length ≤ n → ∀ (ks : List ByteArray) (both live : Bool) (k : List ByteArray) (c : Bool), z_al ks both live t = some (k, c) → k.length ≤ ks.length + t.flat.length := by
 induction n with
 | zero =>
  intro t ht ks both live k c h
  cases t with
  | nil => simp only [z_al, Option.some.injEq, Prod.mk.injEq] at h; rw [← h.1]; omega
  | plain l r => simp [Bl.flat] at ht
  | one l p e r => simp [Bl.flat] at ht
  | two l p m q e r => simp [Bl.flat] at ht
 | succ n ih =>
  intro t ht ks both live k c h
  have ul : ∀ (ss ks : List ByteArray), (uniU ks ss).length ≤ ks.length + ss.length := by
   intro ss
   induction ss with
   | nil => intro ks; simp [uniU]
   | cons s r ih2 =>
    intro ks
    have h1 := ih2 (addU ks s)
    have h2 : (addU ks s).length ≤ ks.length + 1 := by rw [addU]; split <;> simp
    show (uniU (addU ks s) r).length ≤ _
    simp only [List.length_cons]; omega
  have pl : ∀ (p : Bl) (b : Bool) (g : List ByteArray) (c : Bool), p.flat.length ≤ n → z_bA ks b p = some (g, c) → g.length ≤ p.flat.length := by
   intro p b g c hp hh
   have := ih p hp ks b true _ _ (z_cm hh).1
   simp at this; omega
  cases hn : z_aS t with
  | false =>
   cases t with
   | nil => simp only [z_al, Option.some.injEq, Prod.mk.injEq] at h; rw [← h.1]; omega
   | plain l r => cases hn
   | one l p e r => cases hn
   | two l p m q e r => cases hn
  | true =>
   rw [z_dC ks both live t hn] at h
   split at h
   ·have hg : ∀ g c', z_cu ks both t = some (g, c') → g.length ≤ z_ai t := by
     intro g c' hh
     cases t with
     | nil => cases hn
     | plain l r =>
      simp only [z_cu, Option.some.injEq, Prod.mk.injEq] at hh
      rw [← hh.1]; split <;> simp [z_ai]
     | one l p e r =>
      simp only [z_cu] at hh
      split at hh
      ·cases hh
      ·simp only [Option.some.injEq, Prod.mk.injEq] at hh; rw [← hh.1]; simp
     | two l p m q e r =>
      have hpn : p.flat.length ≤ n := by simp [Bl.flat] at ht; omega
      have hqn : q.flat.length ≤ n := by simp [Bl.flat] at ht; omega
      simp only [z_cu] at hh
      split at hh
      ·cases hh
      ·rename_i g1 c1 h1
       split at hh
       ·cases hh
       ·rename_i g2 c2 h2
        have l1 := pl p _ g1 c1 hpn h1
        have l2 := pl q _ g2 c2 hqn h2
        have l3 := z_lR g1 g2
        simp only [z_ai]
        split at hh
        ·split at hh
         ·cases hh
         ·simp only [Option.some.injEq, Prod.mk.injEq] at hh; rw [← hh.1]; simp; omega
        ·split at hh
         ·simp only [Option.some.injEq, Prod.mk.injEq] at hh; rw [← hh.1]; omega
         ·split at hh
          ·simp only [Option.some.injEq, Prod.mk.injEq] at hh; rw [← hh.1]; omega
          ·simp only [Option.some.injEq, Prod.mk.injEq] at hh; rw [← hh.1]; omega
    cases hr : z_cu ks both t with
    | none => rw [hr] at h; cases h
    | some x =>
     obtain ⟨g, c'⟩ := x
     rw [hr] at h
     have h1 := hg g c' hr
     have h2 := z_b9 t
     have hpos : 1 ≤ z_ai t := by cases t <;> simp [z_ai, z_aS] at hn ⊢
     have h3 := ih (z_aN t) (by omega) _ _ _ _ _ h
     have h4 := ul g ks
     omega
   ·cases h
end
end Go.Proofs.YtlbjjbolbopfmaaGreatDoor
