import Derived.Test.YtlbjjbolbopfmaaGreatDoorJ44
import Derived.Test.YtlbjjbolbopfmaaGreatDoorJ24
namespace Go.Proofs.YtlbjjbolbopfmaaGreatDoor
set_option maxHeartbeats 16000000
set_option maxRecDepth 1000000
set_option linter.unusedVariables false
open Go.RowKit
theorem z_hT (k : Int) (d : Bd) (ao : Option Addr) (c : Nat) (w : World) (hz : LnSz (k, d)) (hc : d.args.length ≤ c) (hi : StrsAt 0 w.heap.size w ao d.args) :
  Calls Tryz.prog 100 #[.agg #[.int .i64 k, .string d.to, .string d.name, .slice ao d.args.length c, .string d.undo]] w fun e w' => e = .returned (.bool (z_br k d)) ∧ Below w.heap.size w w' := by
 by_cases h : ¬ (1 ≤ k ∧ k ≤ 15) ∨ (branchK k = true ∧ d.args.length ≠ 2)
 ·exact z_i k d ao c w hz.len h
 ·have h1 : 1 ≤ k ∧ k ≤ 15 := Classical.byContradiction fun hn => h (.inl hn)
  obtain ⟨n, rfl⟩ : ∃ n : Nat, k = n := ⟨k.toNat, by omega⟩
  exact z_jI n d ao c w (by omega) (by omega) (fun hb => Classical.byContradiction fun hn => h (.inr ⟨hb, hn⟩)) hc hz.len hz.to hz.name hz.undo hz.args hi
theorem Tryz.infoInt : (Tryz.prog.info? 3).map (fun i => (i.zero, i.size, i.bytes)) = some (some (.int .i64 0), 1, 8) := by kernel_rfl
def z_aG (os : List Opn) : List Value := os.map fun o => .int .i64 (oK o)
def FBox (w : World) (p : Nat) (a b : Int) : Prop := w.heap[p]? = some (.cells #[.int .i64 a, .int .i64 b] 43 (0, 0))
section
variable {w w' : World} {p : Nat} {a b : Int}
theorem FBox.cells (h : FBox w p a b) : w.cell? ⟨p, 0, none⟩ = some (.int .i64 a) ∧ w.cell? ⟨p, 1, none⟩ = some (.int .i64 b) ∧ ∀ j, w.frozen? ⟨p, j, none⟩ = false := by
 refine ⟨?_, ?_, fun j => frozen_of_row _ _ j _ _ h⟩ <;> (rw [cell_of_row _ _ _ _ _ _ h]; rfl)
theorem FBox.lt (h : FBox w p a b) : p < w.heap.size := (Array.getElem?_eq_some_iff.1 h).1
theorem FBox.below (h : FBox w p a b) (hb : Below w.heap.size w w') : FBox w' p a b := (hb.block p h.lt).trans h
end
theorem z_hE {w : World} {base : Nat} {v : Value} {os : List Opn} {o : Opn} (h : w.ownsRow base 3 1 v (os ++ [o]).length (z_aG (os ++ [o]))) :
  ∃ g vc, v = .slice (some ⟨g, 0, none⟩) (os.length + 1) vc ∧ os.length + 1 ≤ vc ∧ vc ≤ 9223372036854775807 ∧ base ≤ g ∧ g < w.heap.size ∧ w.cell? ⟨g, os.length, none⟩ = some (.int .i64 (oK o)) ∧ (∀ j, w.frozen? ⟨g, j, none⟩ = false) ∧ w.ownsRow base 3 1 (.slice (some ⟨g, 0, none⟩) (os.length + 1) vc) (os.length + 1) (z_aG (os ++ [o])) := by
 have el : (os ++ [o]).length = os.length + 1 := by simp
 rw [el] at h
 rcases h.2 with ⟨_, h0⟩ | ⟨g, vc, cur, rfl, hb, hg, hn, hm, hs, ht⟩
 ·omega
 ·have hc := h.cellAt os.length (by omega)
  have e2 : (z_aG (os ++ [o]))[os.length]? = some (.int .i64 (oK o)) := by simp [z_aG]
  exact ⟨g, vc, rfl, hn, by unfold maxLen at hm; omega, hb, (Array.getElem?_eq_some_iff.1 hg).1, hc.trans e2, fun j => h.frozenAt j, h⟩
theorem z_lI {os : List Opn} {o o' : Opn} : (z_aG (os ++ [o])).set os.length (.int .i64 (oK o')) = z_aG (os ++ [o']) := by simp [z_aG]
theorem z_mL {os : List Opn} {o : Opn} : (z_aG (os ++ [o])).take (os.length * 1) = z_aG os := by simp [z_aG]
theorem z_nq {w w2 w3 : World} {base : Nat} {v v' : Value} {os : List Opn} {k : Int} (hb : Below w.heap.size w w2) (hf : FBox w2 w.heap.size 0 0) (hbase : w.heap.size < base) (hbs : base ≤ w2.heap.size) (ho : w2.ownsRow base 3 1 v os.length (z_aG os))
  (hown : w3.ownsRow base 3 1 v' (os.length + 1) (z_aG os ++ [.int .i64 k])) (hg : (w2.alloc (.cells #[.int .i64 k] 3)).grownBy w3 v.ownBlock) :
  Aside (w3.ownsRow base 3 1 v' (os ++ [(k, false)]).length (z_aG (os ++ [(k, false)])) ∧ Below w.heap.size w w3 ∧ FBox w3 w.heap.size 0 0 ∧ base ≤ w3.heap.size) := by
 have hb2 : Below w2.heap.size w2 (w2.alloc (.cells #[.int .i64 k] 3)) := (Below.refl _ _).alloc (Nat.le_refl _) _
 have hs := hg.size
 simp at hs
 refine ⟨?_, (hb.alloc (by omega) _).grown hg (by simp; omega) (fun j hj => by have := (ho.lt _ hj).1; omega), ?_, by omega⟩
 ·have e : z_aG (os ++ [(k, false)]) = z_aG os ++ [.int .i64 k] := by simp [z_aG, oK]
  rw [e, List.length_append]; exact hown
 ·exact (hg.block _ (by simp; have := hf.lt; omega) (fun e => by have := (ho.lt _ e.symm).1; omega)).trans ((hb2.block _ hf.lt).trans hf)
def z_m0 (w : World) (ls : List Ln) (e : Ending) (w' : World) : Prop :=
 ∃ a b : Int, e = .returned (.agg #[.int .i64 a, .int .i64 b]) ∧ Below w.heap.size w w' ∧ ((b == 0) = true ∧ standB ls backL ∨ (b == 0) = false ∧ ¬ standB ls backL)
theorem z_bS {w w2 : World} {ls : List Ln} {a b : Int} (hb : Below w.heap.size w w2) (hn : ¬ standB ls backL) (h : (b == 0) = false) (x y : Value) : z_m0 w ls (.returned (.agg #[.int .i64 a, .int .i64 b])) ((w2.setCell ⟨w.heap.size, 0, none⟩ x).setCell ⟨w.heap.size, 1, none⟩ y) :=
 ⟨a, b, rfl, (hb.setCell (p := ⟨w.heap.size, 0, none⟩) (Nat.le_refl _) _).setCell (p := ⟨w.heap.size, 1, none⟩) (Nat.le_refl _) _, .inr ⟨h, hn⟩⟩
theorem z_k8 {ls : List Ln} {k : Nat} (h : z_aL true [] (z_bf (ls.take k)) = none) : ¬ standB ls backL := fun hs => z_gz h hs.2.2
theorem z_jt (ao : Option Addr) (cap : Nat) (ls : List Ln) (w : World) (hl : ls.length ≤ 60) (hz : ∀ l ∈ ls, LnSz l) (hi : LinesAt w.heap.size w ao ls) :
  Calls Tryz.prog 66 #[.slice ao ls.length cap] w (z_m0 w ls) := by
 obtain ⟨i0, hi0, hz0, hz1, hz2⟩ := info_parts Tryz.infoInt
 have HI : Hid (LinesAt w.heap.size w ao ls) := hi
 have HZ : Hid (∀ l ∈ ls, LnSz l) := hz
 have HF0 : Hid (FBox ((w.alloc (.cells #[.int .i64 0, .int .i64 0] 43)).alloc (.cells #[] 3)) w.heap.size 0 0) := (Below.heap_alloc _ _ _ (by simp)).trans (heap_alloc_new w _)
 have HO0 : Hid (((w.alloc (.cells #[.int .i64 0, .int .i64 0] 43)).alloc (.cells #[] 3)).ownsRow (w.heap.size + 1) 3 1 (.slice (some ⟨w.heap.size + 1, 0, none⟩) 0 0) 0 (z_aG [])) := z_dW _ _ _
 have HB0 : Hid (Below w.heap.size w ((w.alloc (.cells #[.int .i64 0, .int .i64 0] 43)).alloc (.cells #[] 3))) := z_ab _ _ _
 clear hi hz
 go_enter Tryz.func66, Tryz.ntmps66
 go_wp2_with fail
 go_loopw [3, 4] (fun v i wr => ∃ (k : Nat) (os : List Opn), k ≤ ls.length ∧ i = .int .i64 k ∧ os.length ≤ k ∧ Hid (wr.ownsRow (w.heap.size + 1) 3 1 v os.length (z_aG os)) ∧ Hid (Below w.heap.size w wr) ∧ Hid (FBox wr w.heap.size 0 0) ∧ w.heap.size + 1 ≤ wr.heap.size ∧ Hid (z_aL true [] (z_bf (ls.take k)) = some os) ∧ Hid (∀ l ∈ ls.take k, backL l = true)) (fun _ i _ => ls.length - (intOf i).toNat)
 case atStart => exact ⟨0, [], Nat.zero_le _, rfl, Nat.le_refl _, HO0, HB0, HF0, by simp, rfl, by simp [Hid]⟩
 case round =>
  obtain ⟨k, os, hk, rfl, hos, HO, HB, HF, hws, HP, HA⟩ := hrel
  clear HO0 HB0 HF0
  by_cases hlt : k < ls.length
  ·obtain ⟨b, off, rfl, hB, aoA, capA, hcA, q0, q1, q2, q3, q4, hA⟩ := HI.out k hlt
   have hc0 := fun j => HB.out.cell (p := ⟨b, j, none⟩) hB
   have c0 := (hc0 _).trans q0
   have c1 := (hc0 _).trans q1
   have c2 := (hc0 _).trans q2
   have c3 := (hc0 _).trans q3
   have c4 := (hc0 _).trans q4
   have HAr : Hid (StrsAt 0 wr.heap.size wr aoA ls[k].2.args) := (hA.below HB.out).mono (Nat.le_refl _) HB.out.size
   have hlz := HZ.out _ (List.getElem_mem hlt)
   have HST : Hid (z_aL true [] (z_bf (ls.take (k + 1))) = z_bo (decide (k = 0)) os ls[k].1) := z_f2 hlt HP.out
   have HBad : Hid (backL ls[k] = false → ¬ standB ls backL) := fun h => z_hW hlt h
   have HNo : Hid (z_bo (decide (k = 0)) os ls[k].1 = none → ¬ standB ls backL) := fun h => z_k8 (k := k + 1) (by rw [HST.out, h])
   have HA1 : Hid (backL ls[k] = true → ∀ l ∈ ls.take (k + 1), backL l = true) := by
    intro hb l hl
    rw [List.take_succ_eq_append_getElem hlt] at hl
    rcases List.mem_append.1 hl with h | h
    ·exact HA.out l h
    ·have : l = ls[k] := by simpa using h
     rw [this]; exact hb
   clear q0 q1 q2 q3 q4 hA hc0
   obtain ⟨L, hL⟩ : ∃ L, L = ls[k] := ⟨_, rfl⟩
   rw [← hL] at c0 c1 c2 c3 c4 hlz HAr HST HBad HNo HA1 hcA
   clear hL
   obtain ⟨kd, d⟩ := L
   have HLz : Hid (LnSz (kd, d)) := hlz
   clear hlz
   simp only at c0 c1 c2 c3 c4 hcA HST HBad HNo HA1
   obtain ⟨first, hfi⟩ : ∃ f : Bool, decide (k = 0) = f := ⟨_, rfl⟩
   rw [hfi] at HST HNo
   have hf : ((k : Int) == 0) = first := by
    rw [← hfi]; by_cases h : k = 0
    ·subst h; rfl
    ·have : ((k : Int) == 0) = false := by simp; omega
     rw [this, decide_eq_false h]
   have hos60 : os.length ≤ 60 := by omega
   clear hfi
   obtain ⟨vo, vc, rfl, hvc⟩ := z_aq HO.out
   go_wp2_with fail
   refine (z_hT kd d aoA capA wr HLz.out hcA HAr.out).mono ?_
   rintro e w2 ⟨rfl, hb2⟩
   have HO2 : Hid (w2.ownsRow (w.heap.size + 1) 3 1 (.slice vo os.length vc) os.length (z_aG os)) := z_ax HO.out hb2
   have HB2 : Hid (Below w.heap.size w w2) := HB.out.trans (hb2.mono HB.out.size)
   have HF2 : Hid (FBox w2 w.heap.size 0 0) := HF.out.below hb2
   have hws2 : w.heap.size + 1 ≤ w2.heap.size := by have := hb2.size; omega
   obtain ⟨r0, r1, fr⟩ := HF2.out.cells
   have hplt : w.heap.size < w2.heap.size := by omega
   clear hb2 HO HB HF hws c0 c1 c2 c3 c4
   cases hbk : z_br kd d with
   | false =>
    have HN : Hid (¬ standB ls backL) := HBad.out hbk
    go_wp2
    refine bodyPost_ret (v := .agg #[.int .i64 ((k : Int) + 1), .int .i64 1]) (by simp [results, Tryz.results66, go_sem, r0, r1]) rfl ?_
    exact z_bS HB2.out HN.out rfl _ _
   | true =>
    have HA2 : Hid (∀ l ∈ ls.take (k + 1), backL l = true) := HA1.out hbk
    cases hne : (first == (kd == 1)) with
    | false =>
     have HN : Hid (¬ standB ls backL) := HNo.out (z_k7 (by intro e; rw [e] at hne; cases first <;> cases hne))
     go_wp2
     refine bodyPost_ret (v := .agg #[.int .i64 ((k : Int) + 1), .int .i64 2]) (by simp [results, Tryz.results66, go_sem, r0, r1]) rfl ?_
     exact z_bS HB2.out HN.out rfl _ _
    | true =>
     have hk1 : (kd == 1) = first := (eq_of_beq hne).symm
     have HK1 : Hid ((kd == 1) = first) := hk1
     clear hk1
     cases hop : z_am kd with
     | true =>
      by_cases h5 : 5 ≤ os.length
      ·have HN : Hid (¬ standB ls backL) := HNo.out (by rw [z_iy HK1.out hop, if_pos h5])
       have h5' : (5 : Int) ≤ os.length := by omega
       go_wp2_with (go_at_call 71; refine (z_ao _ _).mono ?_; rintro e w2 ⟨rfl, rfl⟩; rw [hop])
       refine bodyPost_ret (v := .agg #[.int .i64 ((k : Int) + 1), .int .i64 3]) (by simp [results, Tryz.results66, go_sem, r0, r1]) rfl ?_
       exact z_bS HB2.out HN.out rfl _ _
      ·have HS3 : Hid (z_aL true [] (z_bf (ls.take (k + 1))) = some (os ++ [(kd, false)])) := by show _ = _; rw [HST.out, z_iy HK1.out hop, if_neg h5]
       have h5' : ¬ (5 : Int) ≤ os.length := by omega
       go_wp2_with (first | (go_at_call 71; refine (z_ao _ _).mono ?_; rintro e w2 ⟨rfl, rfl⟩; rw [hop]) | (at_builtin; refine wpList_append_own _ rfl _ _ 50 rfl (w.heap.size + 1) 3 i0 (.int .i64 0) 1 8 Tryz.underlying50 hi0 hz0 hz1 hz2 rfl (by decide) _ _ _ rfl (HO2.out.alloc _) ⟨w2.heap.size, 0, none⟩ 1 1 [.int .i64 kd] rfl rfl (cell_one_new _ _ _) (fun u hu => by simp at hu; subst hu; rfl) (by unfold maxLen; omega) (by omega) (by simp; omega) ?_; intro v' w3 hown hgrow _; have X := z_nq HB2.out HF2.out (Nat.lt_succ_self _) hws2 HO2.out hown hgrow; clear hown hgrow))
       go_roundw
       case rel => exact ⟨k + 1, os ++ [(kd, false)], by omega, by go_num, by simp; omega, X.out.1, X.out.2.1, X.out.2.2.1, X.out.2.2.2, HS3, HA2⟩
       case measure => simp [intOf]; omega
     | false =>
      by_cases k7 : kd = 7
      ·subst k7
       have hff : first = false := by have := HK1.out; simpa using this.symm
       subst hff
       rcases List.eq_nil_or_concat os with rfl | ⟨os0, o, rfl⟩
       ·have HN : Hid (¬ standB ls backL) := HNo.out (z_hH rfl)
        go_wp2_with (go_at_call 71; refine (z_ao _ _).mono ?_; rintro e w2 ⟨rfl, rfl⟩; rw [hop])
        refine bodyPost_ret (v := .agg #[.int .i64 ((k : Int) + 1), .int .i64 2]) (by simp [results, Tryz.results66, go_sem, r0, r1]) rfl ?_
        exact z_bS HB2.out HN.out rfl _ _
       ·rw [List.concat_eq_append] at *
        obtain ⟨g, vc', e, hn', hmx, hbg, hgw, x0, fx, ho'⟩ := z_hE HO2.out
        have el : (os0 ++ [o]).length = os0.length + 1 := by simp
        rw [el] at e hos hos60 ⊢
        simp only [Value.slice.injEq] at e
        obtain ⟨rfl, _, rfl⟩ := e
        have HO3 : Hid (w2.ownsRow (w.heap.size + 1) 3 1 (.slice (some ⟨g, 0, none⟩) (os0.length + 1) vc) (os0.length + 1) (z_aG (os0 ++ [o]))) := ho'
        clear ho' el hvc
        obtain ⟨x, hx⟩ : ∃ x, x = oK o := ⟨_, rfl⟩
        have HX : Hid (x = oK o) := hx
        rw [← hx] at x0
        clear hx
        have hgp : ¬ g = w.heap.size := by omega
        cases hc : z_aE x with
        | false =>
         have HN : Hid (¬ standB ls backL) := HNo.out (by rw [z_ia, ← HX.out, hc]; rfl)
         have hq : (x != 6) = true ∧ (x != 14) = true := by unfold z_aE at hc; rw [Bool.or_eq_false_iff] at hc; exact ⟨by rw [bne, hc.1]; rfl, by rw [bne, hc.2]; rfl⟩
         obtain ⟨q6, q14⟩ := hq
         go_wp2_with (go_at_call 71; refine (z_ao _ _).mono ?_; rintro e w2 ⟨rfl, rfl⟩; rw [hop])
         refine bodyPost_ret (v := .agg #[.int .i64 ((k : Int) + 1), .int .i64 2]) (by simp [results, Tryz.results66, go_sem, r0, r1]) rfl ?_
         exact z_bS HB2.out HN.out rfl _ _
        | true =>
         have HS3 : Hid (z_aL true [] (z_bf (ls.take (k + 1))) = some (os0 ++ [(o.1, true)])) := by show _ = _; rw [HST.out, z_ia, ← HX.out, hc]; rfl
         have HK7 : Hid (oK (o.1, true) = 7) := by
          have h := hc
          rw [HX.out, z_bK] at h
          have h9 : o.1 ≠ 9 := fun e9 => by
           unfold oK at h
           rw [e9] at h
           split at h <;> simp at h
          show _ = _
          simp [oK, h9]
         have HO4 : Hid ((w2.setCell ⟨g, os0.length, none⟩ (.int .i64 7)).ownsRow (w.heap.size + 1) 3 1 (.slice (some ⟨g, 0, none⟩) (os0.length + 1) vc) (os0.length + 1) (z_aG (os0 ++ [(o.1, true)]))) := by
          have h := z_cU HO3.out os0.length (.int .i64 (oK (o.1, true)))
          rw [z_lI, HK7.out] at h
          exact h
         have HF4 : Hid (FBox (w2.setCell ⟨g, os0.length, none⟩ (.int .i64 7)) w.heap.size 0 0) := (Below.heap_setCell w2 _ _ _ (fun e => hgp e.symm)).trans HF2.out
         rcases (z_bK x).1 hc with e6 | e14
         ·subst e6
          go_wp2_with (go_at_call 71; refine (z_ao _ _).mono ?_; rintro e w2 ⟨rfl, rfl⟩; rw [hop])
          go_roundw
          case rel => exact ⟨k + 1, os0 ++ [(o.1, true)], by omega, by go_num, by simp; omega, by rw [show (os0 ++ [(o.1, true)]).length = os0.length + 1 from by simp]; exact HO4, HB2.out.setCell (by show _ ≤ g; omega) _, HF4, by simp [World.setCell]; omega, HS3, HA2⟩
          case measure => simp [intOf]; omega
         ·subst e14
          go_wp2_with (go_at_call 71; refine (z_ao _ _).mono ?_; rintro e w2 ⟨rfl, rfl⟩; rw [hop])
          go_roundw
          case rel => exact ⟨k + 1, os0 ++ [(o.1, true)], by omega, by go_num, by simp; omega, by rw [show (os0 ++ [(o.1, true)]).length = os0.length + 1 from by simp]; exact HO4, HB2.out.setCell (by show _ ≤ g; omega) _, HF4, by simp [World.setCell]; omega, HS3, HA2⟩
          case measure => simp [intOf]; omega
      by_cases k10 : kd = 10
      ·subst k10
       have hff : first = false := by have := HK1.out; simpa using this.symm
       subst hff
       rcases List.eq_nil_or_concat os with rfl | ⟨os0, o, rfl⟩
       ·have HN : Hid (¬ standB ls backL) := HNo.out (z_hH rfl)
        go_wp2_with (go_at_call 71; refine (z_ao _ _).mono ?_; rintro e w2 ⟨rfl, rfl⟩; rw [hop])
        refine bodyPost_ret (v := .agg #[.int .i64 ((k : Int) + 1), .int .i64 2]) (by simp [results, Tryz.results66, go_sem, r0, r1]) rfl ?_
        exact z_bS HB2.out HN.out rfl _ _
       ·rw [List.concat_eq_append] at *
        obtain ⟨g, vc', e, hn', hmx, hbg, hgw, x0, fx, ho'⟩ := z_hE HO2.out
        have el : (os0 ++ [o]).length = os0.length + 1 := by simp
        rw [el] at e hos hos60 ⊢
        simp only [Value.slice.injEq] at e
        obtain ⟨rfl, _, rfl⟩ := e
        have HO3 : Hid (w2.ownsRow (w.heap.size + 1) 3 1 (.slice (some ⟨g, 0, none⟩) (os0.length + 1) vc) (os0.length + 1) (z_aG (os0 ++ [o]))) := ho'
        clear ho' el hvc
        obtain ⟨x, hx⟩ : ∃ x, x = oK o := ⟨_, rfl⟩
        have HX : Hid (x = oK o) := hx
        rw [← hx] at x0
        clear hx
        have hgp : ¬ g = w.heap.size := by omega
        cases hc : (x == 9) with
        | false =>
         have HN : Hid (¬ standB ls backL) := HNo.out (by rw [z_kl, ← HX.out, if_neg (by simpa using hc)])
         have hq : (x != 9) = true := by rw [bne, hc]; rfl
         go_wp2_with (go_at_call 71; refine (z_ao _ _).mono ?_; rintro e w2 ⟨rfl, rfl⟩; rw [hop])
         refine bodyPost_ret (v := .agg #[.int .i64 ((k : Int) + 1), .int .i64 2]) (by simp [results, Tryz.results66, go_sem, r0, r1]) rfl ?_
         exact z_bS HB2.out HN.out rfl _ _
        | true =>
         have hx9 : x = 9 := eq_of_beq hc
         have HS3 : Hid (z_aL true [] (z_bf (ls.take (k + 1))) = some (os0 ++ [(o.1, true)])) := by show _ = _; rw [HST.out, z_kl, ← HX.out, if_pos hx9]
         have HK7 : Hid (oK (o.1, true) = 10) := by
          have h := HX.out
          rw [hx9] at h
          have h9 : o.1 = 9 := by
           unfold oK at h
           split at h
           ·split at h <;> omega
           ·exact h.symm
          show _ = _
          simp [oK, h9]
         have HO4 : Hid ((w2.setCell ⟨g, os0.length, none⟩ (.int .i64 10)).ownsRow (w.heap.size + 1) 3 1 (.slice (some ⟨g, 0, none⟩) (os0.length + 1) vc) (os0.length + 1) (z_aG (os0 ++ [(o.1, true)]))) := by
          have h := z_cU HO3.out os0.length (.int .i64 (oK (o.1, true)))
          rw [z_lI, HK7.out] at h
          exact h
         have HF4 : Hid (FBox (w2.setCell ⟨g, os0.length, none⟩ (.int .i64 10)) w.heap.size 0 0) := (Below.heap_setCell w2 _ _ _ (fun e => hgp e.symm)).trans HF2.out
         subst hx9
         go_wp2_with (go_at_call 71; refine (z_ao _ _).mono ?_; rintro e w2 ⟨rfl, rfl⟩; rw [hop])
         go_roundw
         case rel => exact ⟨k + 1, os0 ++ [(o.1, true)], by omega, by go_num, by simp; omega, by rw [show (os0 ++ [(o.1, true)]).length = os0.length + 1 from by simp]; exact HO4, HB2.out.setCell (by show _ ≤ g; omega) _, HF4, by simp [World.setCell]; omega, HS3, HA2⟩
         case measure => simp [intOf]; omega
      by_cases k11 : kd = 11
      ·subst k11
       have hff : first = false := by have := HK1.out; simpa using this.symm
       subst hff
       rcases List.eq_nil_or_concat os with rfl | ⟨os0, o, rfl⟩
       ·have HN : Hid (¬ standB ls backL) := HNo.out (z_hH rfl)
        go_wp2_with (go_at_call 71; refine (z_ao _ _).mono ?_; rintro e w2 ⟨rfl, rfl⟩; rw [hop])
        refine bodyPost_ret (v := .agg #[.int .i64 ((k : Int) + 1), .int .i64 2]) (by simp [results, Tryz.results66, go_sem, r0, r1]) rfl ?_
        exact z_bS HB2.out HN.out rfl _ _
       ·rw [List.concat_eq_append] at *
        obtain ⟨g, vc', e, hn', hmx, hbg, hgw, x0, fx, ho'⟩ := z_hE HO2.out
        have el : (os0 ++ [o]).length = os0.length + 1 := by simp
        rw [el] at e hos hos60 ⊢
        simp only [Value.slice.injEq] at e
        obtain ⟨rfl, _, rfl⟩ := e
        have HO3 : Hid (w2.ownsRow (w.heap.size + 1) 3 1 (.slice (some ⟨g, 0, none⟩) (os0.length + 1) vc) (os0.length + 1) (z_aG (os0 ++ [o]))) := ho'
        clear ho' el hvc
        obtain ⟨x, hx⟩ : ∃ x, x = oK o := ⟨_, rfl⟩
        have HX : Hid (x = oK o) := hx
        rw [← hx] at x0
        clear hx
        have hgp : ¬ g = w.heap.size := by omega
        cases hc : (x == 9) with
        | true =>
         have hx9 : x = 9 := eq_of_beq hc
         have HN : Hid (¬ standB ls backL) := HNo.out (by rw [z_jR, ← HX.out, if_pos hx9])
         subst hx9
         go_wp2_with (go_at_call 71; refine (z_ao _ _).mono ?_; rintro e w2 ⟨rfl, rfl⟩; rw [hop])
         refine bodyPost_ret (v := .agg #[.int .i64 ((k : Int) + 1), .int .i64 2]) (by simp [results, Tryz.results66, go_sem, r0, r1]) rfl ?_
         exact z_bS HB2.out HN.out rfl _ _
        | false =>
         have HS3 : Hid (z_aL true [] (z_bf (ls.take (k + 1))) = some os0) := by show _ = _; rw [HST.out, z_jR, ← HX.out, if_neg (by simpa using hc)]
         have HO4 : Hid (w2.ownsRow (w.heap.size + 1) 3 1 (.slice (some ⟨g, 0, none⟩) os0.length vc) os0.length (z_aG os0)) := by
          have h := z_gA HO3.out os0.length (by omega)
          rw [z_mL] at h
          exact h
         go_wp2_with (go_at_call 71; refine (z_ao _ _).mono ?_; rintro e w2 ⟨rfl, rfl⟩; rw [hop])
         go_roundw
         case rel => exact ⟨k + 1, os0, by omega, by go_num, by omega, HO4, HB2, HF2, hws2, HS3, HA2⟩
         case measure => simp [intOf]; omega
      have hcl : z_ae kd = false := by
       cases h : z_ae kd with
       | false => rfl
       | true =>
        rw [z_be] at h
        rcases h with h | h | h
        ·exact absurd h k7
        ·exact absurd h k10
        ·exact absurd h k11
      have HS3 : Hid (z_aL true [] (z_bf (ls.take (k + 1))) = some os) := by show _ = _; rw [HST.out, z_ky HK1.out hop hcl]
      have b7 : (kd == 7) = false := beq_eq_false_iff_ne.2 k7
      have b10 : (kd == 10) = false := beq_eq_false_iff_ne.2 k10
      have b11 : (kd == 11) = false := beq_eq_false_iff_ne.2 k11
      clear k7 k10 k11 hcl
      go_wp2_with (go_at_call 71; refine (z_ao _ _).mono ?_; rintro e w2 ⟨rfl, rfl⟩; rw [hop])
      go_roundw
      case rel => exact ⟨k + 1, os, by omega, by go_num, by omega, HO2, HB2, HF2, hws2, HS3, HA2⟩
      case measure => simp [intOf]; omega
  ·have e0 : ls.take k = ls := List.take_of_length_le (by omega)
   rw [e0] at HP HA
   have hkn : ¬ (k : Int) < ls.length := by omega
   obtain ⟨vo, vc, rfl, hvc⟩ := z_aq HO.out
   obtain ⟨r0, r1, fr⟩ := HF.out.cells
   have hplt : w.heap.size < wr.heap.size := by omega
   by_cases h0 : 0 < os.length
   ·have HN : Hid (¬ standB ls backL) := fun hs => by have h := HP.out.symm.trans hs.2.2; cases h; simp at h0
    have h0' : (0 : Int) < os.length := by omega
    go_wp2
    refine bodyPost_ret (v := .agg #[.int .i64 ls.length, .int .i64 2]) (by simp [results, Tryz.results66, go_sem, r0, r1]) rfl ?_
    exact z_bS HB.out HN.out rfl _ _
   ·have hos0 : os = [] := List.length_eq_zero_iff.1 (by omega)
    subst hos0
    cases hz0' : ((ls.length : Int) == 0) with
    | true =>
     have HN : Hid (¬ standB ls backL) := fun hs => hs.1 (List.length_eq_zero_iff.1 (by have := eq_of_beq hz0'; omega))
     go_wp2
     refine bodyPost_ret (v := .agg #[.int .i64 ls.length, .int .i64 2]) (by simp [results, Tryz.results66, go_sem, r0, r1]) rfl ?_
     exact z_bS HB.out HN.out rfl _ _
    | false =>
     have HY : Hid (standB ls backL) := ⟨fun e => by subst e; simp at hz0', HA.out, HP.out⟩
     go_wp2
     refine bodyPost_ret (v := .agg #[.int .i64 0, .int .i64 0]) (by simp [results, Tryz.results66, go_sem, r0, r1]) rfl ?_
     exact ⟨0, 0, rfl, (HB.out.setCell (p := ⟨w.heap.size, 0, none⟩) (Nat.le_refl _) _).setCell (p := ⟨w.heap.size, 1, none⟩) (Nat.le_refl _) _, .inl ⟨rfl, HY.out⟩⟩
end Go.Proofs.YtlbjjbolbopfmaaGreatDoor
