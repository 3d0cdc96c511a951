import Derived.Test.YtlbjjbolbopfmaaGreatDoorJ21
import Derived.Test.YtlbjjbolbopfmaaGreatDoorJ03
namespace Go.Proofs.YtlbjjbolbopfmaaGreatDoor
set_option maxHeartbeats 4000000
set_option maxRecDepth 1000000
set_option linter.unusedVariables false
section
open Go.RowKit
def CObj (w : World) (p : Nat) (L : Value) (a ln fc : Int) : Prop := w.heap[p]? = some (.cells #[L, .int .i64 a, .int .i64 ln, .int .i64 fc] 102 (0, 0))
section
variable {w w' : World} {p : Nat} {L : Value} {a ln fc : Int}
theorem CObj.lt (h : CObj w p L a ln fc) : p < w.heap.size := (Array.getElem?_eq_some_iff.1 h).1
theorem CObj.c0 (h : CObj w p L a ln fc) : w.cell? ⟨p, 0, none⟩ = some L := by rw [cell_of_row _ _ 0 _ _ _ h]; rfl
theorem CObj.c1 (h : CObj w p L a ln fc) : w.cell? ⟨p, 1, none⟩ = some (.int .i64 a) := by rw [cell_of_row _ _ 1 _ _ _ h]; rfl
theorem CObj.c2 (h : CObj w p L a ln fc) : w.cell? ⟨p, 2, none⟩ = some (.int .i64 ln) := by rw [cell_of_row _ _ 2 _ _ _ h]; rfl
theorem CObj.c3 (h : CObj w p L a ln fc) : w.cell? ⟨p, 3, none⟩ = some (.int .i64 fc) := by rw [cell_of_row _ _ 3 _ _ _ h]; rfl
theorem CObj.fz (h : CObj w p L a ln fc) (j : Nat) : w.frozen? ⟨p, j, none⟩ = false := frozen_of_row _ _ j _ _ h
theorem CObj.keep (h : CObj w p L a ln fc) (hk : w'.heap[p]? = w.heap[p]?) : CObj w' p L a ln fc := hk.trans h
theorem CObj.below (h : CObj w p L a ln fc) (hb : Below w.heap.size w w') : CObj w' p L a ln fc := h.keep (hb.block p h.lt)
theorem CObj.fault (h : CObj w p L a ln fc) (x y : Int) : CObj ((w.setCell ⟨p, 2, none⟩ (.int .i64 x)).setCell ⟨p, 3, none⟩ (.int .i64 y)) p L a x y :=
 heap_setCell_same _ p 3 _ _ _ (heap_setCell_same w p 2 _ _ _ h)
theorem CObj.at (h : CObj w p L a ln fc) (x : Int) : CObj (w.setCell ⟨p, 1, none⟩ (.int .i64 x)) p L x ln fc := heap_setCell_same w p 1 _ _ _ h
end
theorem z_cl (p : Nat) (L : Value) (a : Nat) (ln : Int) (c : Int) (w : World) (h : CObj w p L a ln 0) (ha : a ≤ 1000) :
  Calls Tryz.prog 68 #[.pointer (some ⟨p, 0, none⟩), .int .i64 c] w fun e w' => e = .returned (.tuple #[]) ∧ CObj w' p L a ((a : Int) + 1) c ∧ w.grownBy w' (some p) := by
 have c1 := h.c1
 have c2 := h.c2
 have c3 := h.c3
 have f2 := h.fz 2
 have f3 := h.fz 3
 have HH : Hid (CObj w p L a ln 0) := h
 clear h
 go_enter Tryz.func68, Tryz.ntmps68
 go_wp2
 go_end0
 exact ⟨rfl, HH.out.fault _ _, z_ah (z_aj p 2 _) (z_aj p 3 _) (.inl rfl)⟩
theorem z_f7 (p : Nat) (L : Value) (a : Nat) (ln fc : Int) (c : Int) (w : World) (h : CObj w p L a ln fc) (hf : (fc == 0) = false) :
  Calls Tryz.prog 68 #[.pointer (some ⟨p, 0, none⟩), .int .i64 c] w fun e w' => e = .returned (.tuple #[]) ∧ w' = w := by
 have c3 := h.c3
 clear h
 go_enter Tryz.func68, Tryz.ntmps68
 go_wp2
 go_end0
 exact ⟨rfl, rfl⟩
end
section
open Go.RowKit
def z_dX (ks ss : List ByteArray) : Bool := ss.all fun s => !z_ac s || hasB ks s
theorem z_kG (ks ss : List ByteArray) (k : Nat) (h : k < ss.length) : z_dX ks (ss.take (k + 1)) = (z_dX ks (ss.take k) && (!z_ac ss[k] || hasB ks ss[k])) := by
 rw [List.take_succ_eq_append_getElem h, z_dX, List.all_append]; simp [z_dX]
theorem z_mJ (p : Nat) (L : Value) (a : Nat) (ln : Int) (k : Int) (tt nm ud : ByteArray) (aa ko : Option Addr) (ca ck : Nat) (args ks : List ByteArray) (w : World) (hc : CObj w p L a ln 0) (ha : a ≤ 1000) (hk : (k != 1) = true)
  (hl : args.length ≤ 1048576) (hz : ∀ s ∈ args, s.size ≤ 1048576) (hkl : ks.length ≤ 1048576) (hA : StrsAt 0 p w aa args) (hK : StrsAt (p + 1) w.heap.size w ko ks) :
  Calls Tryz.prog 101 #[.pointer (some ⟨p, 0, none⟩), .agg #[.int .i64 k, .string tt, .string nm, .slice aa args.length ca, .string ud], .slice ko ks.length ck] w fun e w' => e = .returned (.tuple #[]) ∧ ∃ ln' fc' : Int, CObj w' p L a ln' fc' ∧ (fc' == 0) = z_dX ks args ∧ w.grownBy w' (some p) := by
 have hp := hc.lt
 obtain ⟨W0, hW0⟩ : ∃ W0, W0 = w.alloc (.cells #[.int .i64 k, .string tt, .string nm, .slice aa args.length ca, .string ud] 49) := ⟨_, rfl⟩
 have hB0 : Below w.heap.size w W0 := by rw [hW0]; exact (Below.refl _ _).alloc (Nat.le_refl _) _
 have HC0 : Hid (CObj W0 p L a ln 0) := hc.below hB0
 have HA : Hid (StrsAt 0 p W0 aa args) := hA.below (hB0.mono (Nat.le_of_lt hp))
 have HK : Hid (StrsAt (p + 1) w.heap.size W0 ko ks) := hK.below hB0
 have HG0 : Hid (w.grownBy W0 (some p)) := z_bt hB0
 have hs0 : w.heap.size < W0.heap.size := by rw [hW0]; simp
 have b0 : W0.cell? ⟨w.heap.size, 0, none⟩ = some (.int .i64 k) := by rw [hW0]; simp
 have b3 : W0.cell? ⟨w.heap.size, 3, none⟩ = some (.slice aa args.length ca) := by rw [hW0]; simp
 have HZ : Hid (∀ s ∈ args, s.size ≤ 1048576) := hz
 have HW0 : Hid (w.alloc (.cells #[.int .i64 k, .string tt, .string nm, .slice aa args.length ca, .string ud] 49) = W0) := hW0.symm
 clear hW0 hB0 hc hA hK hz
 go_enter Tryz.func101, Tryz.ntmps101
 go_wp2_with fail
 rw [HW0.out]
 go_loopw [6] (fun ix wr => ∃ (j : Nat) (ln' fc' : Int), j ≤ args.length ∧ ix = .int .i64 j ∧ Hid (CObj wr p L a ln' fc') ∧ Hid ((fc' == 0) = z_dX ks (args.take j)) ∧ Hid (W0.grownBy wr (some p))) (fun ix _ => args.length - (intOf ix).toNat)
 case atStart => exact ⟨0, ln, 0, Nat.zero_le _, rfl, HC0, rfl, z_bW⟩
 case round =>
  obtain ⟨j, ln', fc', hj, rfl, HC, HU, HG⟩ := hrel
  have hgb := HG.out.block w.heap.size hs0 (by simp; omega)
  have d0 : wr.cell? ⟨w.heap.size, 0, none⟩ = some (.int .i64 k) := (World.cell?_of_block hgb).trans b0
  have d3 : wr.cell? ⟨w.heap.size, 3, none⟩ = some (.slice aa args.length ca) := (World.cell?_of_block hgb).trans b3
  clear hgb
  by_cases hjt : j < args.length
  ·have HA2 : Hid (StrsAt 0 p wr aa args) := HA.out.grown HG.out (by omega) (fun i hi => by cases hi; right; exact Nat.le_refl _)
   have HK2 : Hid (StrsAt (p + 1) w.heap.size wr ko ks) := HK.out.grown HG.out (by omega) (fun i hi => by cases hi; left; exact Nat.lt_succ_self _)
   obtain ⟨b2, off2, rfl, hB2, x1⟩ := HA2.out.at j hjt
   have hszx := HZ.out _ (List.getElem_mem hjt)
   have hsn := z_kG ks args j hjt
   obtain ⟨x, hx⟩ : ∃ x, x = args[j] := ⟨_, rfl⟩
   rw [← hx] at hsn x1 hszx
   clear hx
   cases hn : z_ac x with
   | false =>
    have HU2 : Hid ((fc' == 0) = z_dX ks (args.take (j + 1))) := by show _ = _; rw [hsn, hn, HU.out]; simp
    clear hsn
    go_wp2_with (go_at_call 140; refine (z_a _ wr (by omega)).mono ?_; rintro e wr ⟨rfl, rfl⟩; rw [hn])
    go_roundw
    case rel => exact ⟨j + 1, ln', fc', by omega, by go_num, HC, HU2, HG⟩
    case measure => simp [intOf]; omega
   | true =>
    cases hh : hasB ks x with
    | true =>
     have HU2 : Hid ((fc' == 0) = z_dX ks (args.take (j + 1))) := by show _ = _; rw [hsn, hn, hh, HU.out]; simp
     clear hsn
     go_wp2_with (first | (go_at_call 140; refine (z_a _ wr (by omega)).mono ?_; rintro e wr ⟨rfl, rfl⟩; rw [hn]) | (go_at_call 141; refine (z_aF ko ck ks _ _ wr (by omega) (HK2.out.mono (Nat.zero_le _) (Nat.le_refl _))).mono ?_; rintro e wr ⟨rfl, rfl⟩; rw [hh]))
     go_roundw
     case rel => exact ⟨j + 1, ln', fc', by omega, by go_num, HC, HU2, HG⟩
     case measure => simp [intOf]; omega
    | false =>
     have HU3 : Hid (z_dX ks (args.take (j + 1)) = false) := by show _ = _; rw [hsn, hn, hh]; simp
     clear hsn
     cases hf : (fc' == 0) with
     | true =>
      have hf0 : fc' = 0 := eq_of_beq hf
      subst hf0
      go_wp2_with (first | (go_at_call 140; refine (z_a _ wr (by omega)).mono ?_; rintro e wr ⟨rfl, rfl⟩; rw [hn]) | (go_at_call 141; refine (z_aF ko ck ks _ _ wr (by omega) (HK2.out.mono (Nat.zero_le _) (Nat.le_refl _))).mono ?_; rintro e wr ⟨rfl, rfl⟩; rw [hh]) | (go_at_call 68; refine (z_cl p L a ln' 4 wr HC.out ha).mono ?_; rintro e w3 ⟨rfl, hc3, hg3⟩; have HC3 : Hid (CObj w3 p L a ((a : Int) + 1) 4) := hc3; have HG3 : Hid (W0.grownBy w3 (some p)) := z_ah HG.out hg3 (.inl rfl); clear hc3 hg3))
      go_roundw
      case rel => exact ⟨j + 1, _, 4, by omega, by go_num, HC3, by show _ = _; rw [HU3.out]; rfl, HG3⟩
      case measure => simp [intOf]; omega
     | false =>
      go_wp2_with (first | (go_at_call 140; refine (z_a _ wr (by omega)).mono ?_; rintro e wr ⟨rfl, rfl⟩; rw [hn]) | (go_at_call 141; refine (z_aF ko ck ks _ _ wr (by omega) (HK2.out.mono (Nat.zero_le _) (Nat.le_refl _))).mono ?_; rintro e wr ⟨rfl, rfl⟩; rw [hh]) | (go_at_call 68; refine (z_f7 p L a ln' fc' 4 wr HC.out hf).mono ?_; rintro e wr ⟨rfl, rfl⟩))
      go_roundw
      case rel => exact ⟨j + 1, ln', fc', by omega, by go_num, HC, by show _ = _; rw [HU3.out, hf], HG⟩
      case measure => simp [intOf]; omega
  ·have e0 : args.take j = args := List.take_of_length_le (by omega)
   rw [e0] at HU
   go_wp2
   go_end0
   exact ⟨rfl, ln', fc', HC.out, HU.out, z_ah HG0.out HG.out (.inl rfl)⟩
end
section
theorem z_iK {s : ByteArray} (h : z_ac s = true) : numB s = false := by
 cases hn : numB s with
 | false => rfl
 | true =>
  exfalso
  rw [← z_bQ] at hn
  simp only [z_ac, z_iv, Bool.and_eq_true, decide_eq_true_eq] at h
  obtain ⟨h0, h1, h2⟩ := h
  cases hl : s.data.toList with
  | nil => rw [hl] at h1; simp at h1
  | cons b r =>
   rw [hl] at h0 hn
   simp only [z_bv, Bool.and_eq_true] at h0
   have hb := h0.1
   simp only [okC, Bool.or_eq_true, Bool.and_eq_true, decide_eq_true_eq] at hb
   have hb2 : 97 ≤ b.toNat := by
    rcases hb with h | h
    ·exact h.1
    ·exact absurd h.1 (by omega)
   have hneg : negL (b :: r) = false := by
    have : b ≠ 45 := fun e => by rw [e] at hb2; exact absurd hb2 (by decide)
    simp [negL, this]
   have hr : restL (b :: r) = b :: r := by simp [restL, hneg]
   simp only [numL, hr, Bool.and_eq_true] at hn
   have hf := z_eM (b :: r) 0 (by simp) (by simp [digB]; omega)
   rw [hf] at hn
   exact Bool.noConfusion hn.1
theorem z_gc (ks : List ByteArray) : ∀ (args : List ByteArray), (∀ s ∈ args, z_an s = true) → z_dX ks args = allB (z_ce ks) args
 | [], _ => rfl
 | s :: r, h => by
  have ih := z_gc ks r (fun x hx => h x (by simp [hx]))
  have e1 : z_dX ks (s :: r) = ((!z_ac s || hasB ks s) && z_dX ks r) := rfl
  have e2 : allB (z_ce ks) (s :: r) = (z_ce ks s && allB (z_ce ks) r) := rfl
  rw [e1, e2, ih]
  congr 1
  have ho := h s (by simp)
  unfold z_ce
  unfold z_an at ho
  cases hn : z_ac s with
  | true => rw [z_iK hn]; rfl
  | false =>
   rw [hn, Bool.false_or] at ho
   rw [ho]; rfl
theorem z_mN {ks : List ByteArray} {s x : ByteArray} : x ∈ addU ks s ↔ x ∈ ks ∨ x = s := by
 unfold addU
 split
 ·rename_i h
  rw [z_ci] at h
  exact ⟨.inl, fun hx => hx.elim id fun e => e ▸ h⟩
 ·simp
theorem z_eE {x : ByteArray} : ∀ (ss ks : List ByteArray), x ∈ uniU ks ss ↔ x ∈ ks ∨ x ∈ ss
 | [], ks => by simp [uniU]
 | s :: r, ks => by
  have e : uniU ks (s :: r) = uniU (addU ks s) r := rfl
  rw [e, z_eE r, z_mN, List.mem_cons, or_assoc]
theorem mem_setsL {x : ByteArray} {ls : List Ln} : x ∈ z_aY ls ↔ ∃ l ∈ ls, l.2.to = x ∧ x.size ≠ 0 := by
 unfold z_aY
 rw [z_eE]
 simp only [List.not_mem_nil, false_or, z_ay, List.mem_filter, List.mem_map, decide_eq_true_eq]
 constructor
 ·rintro ⟨⟨l, hl, e⟩, hx⟩; exact ⟨l, hl, e, hx⟩
 ·rintro ⟨l, hl, e, hx⟩; exact ⟨⟨l, hl, e⟩, hx⟩
theorem z_h1 {x : ByteArray} {ls : List Ln} : x ∈ z_bm ls ↔ ∃ l ∈ ls, l.1 = 5 ∧ l.2.name = x := by
 unfold z_bm
 rw [z_eE]
 simp only [List.not_mem_nil, false_or, List.mem_filter, List.mem_map, beq_iff_eq]
 constructor
 ·rintro ⟨l, ⟨hl, h5⟩, e⟩; exact ⟨l, hl, h5, e⟩
 ·rintro ⟨l, hl, h5, e⟩; exact ⟨l, ⟨hl, h5⟩, e⟩
theorem mem_touchL {x : ByteArray} {ls : List Ln} : x ∈ z_bl ls ↔ x ∈ z_aY ls ∨ ∃ l ∈ ls, x ∈ l.2.args ∧ z_ac x = true := by
 unfold z_bl
 rw [z_eE]
 simp only [List.mem_flatMap, argN, List.mem_filter]
theorem z_gK {a b : List ByteArray} : 0 < (comm a b).length ↔ ∃ x, x ∈ a ∧ x ∈ b := by
 rw [List.length_pos_iff_exists_mem]
 simp only [comm, List.mem_filter, z_ci]
def z_lM (l : Ln) : Prop := l.2.to = eS ∧ l.2.args = [] ∧ l.1 ≠ 5
def z_gh (X Y : List Ln) : Nat := (comm (z_aY X) (z_bl Y)).length + (comm (z_aY Y) (z_bl X)).length + (comm (z_bm X) (z_bm Y)).length
theorem z_d4 {l : Ln} {xs : List Ln} (hl : z_lM l) {x : ByteArray} : x ∈ z_aY (l :: xs) ↔ x ∈ z_aY xs := by
 simp only [mem_setsL, List.mem_cons]
 constructor
 ·rintro ⟨a, ha, e, hx⟩
  rcases ha with rfl | ha
  ·rw [hl.1] at e; subst e; exact absurd rfl hx
  ·exact ⟨a, ha, e, hx⟩
 ·rintro ⟨a, ha, e, hx⟩; exact ⟨a, .inr ha, e, hx⟩
theorem z_f6 {l : Ln} {xs : List Ln} (hl : z_lM l) {x : ByteArray} : x ∈ z_bm (l :: xs) ↔ x ∈ z_bm xs := by
 simp only [z_h1, List.mem_cons]
 constructor
 ·rintro ⟨a, ha, e, hx⟩
  rcases ha with rfl | ha
  ·exact absurd e hl.2.2
  ·exact ⟨a, ha, e, hx⟩
 ·rintro ⟨a, ha, e, hx⟩; exact ⟨a, .inr ha, e, hx⟩
theorem z_eQ {l : Ln} {xs : List Ln} (hl : z_lM l) {x : ByteArray} : x ∈ z_bl (l :: xs) ↔ x ∈ z_bl xs := by
 rw [mem_touchL, mem_touchL, z_d4 hl]
 constructor
 ·rintro (h | ⟨a, ha, hx, hn⟩)
  ·exact .inl h
  ·rcases List.mem_cons.1 ha with rfl | ha
   ·rw [hl.2.1] at hx; cases hx
   ·exact .inr ⟨a, ha, hx, hn⟩
 ·rintro (h | ⟨a, ha, hx, hn⟩)
  ·exact .inl h
  ·exact .inr ⟨a, List.mem_cons_of_mem _ ha, hx, hn⟩
theorem meddB_iff {a b : Ln} : z_cW a b = true ↔ a.2.to.size ≠ 0 ∧ (a.2.to = b.2.to ∨ a.2.to ∈ b.2.args) := by
 unfold z_cW
 rw [z_av, z_aI]
 simp only [Bool.and_eq_true, Bool.not_eq_true', decide_eq_false_iff_not, Bool.or_eq_true, decide_eq_true_eq, z_ci]
theorem sigB_iff {a b : Ln} : sigB a b = true ↔ a.1 = 5 ∧ b.1 = 5 ∧ a.2.name = b.2.name := by
 unfold sigB
 rw [z_aI]
 simp only [Bool.and_eq_true, beq_iff_eq, decide_eq_true_eq]
theorem z_ge {xs ys : List Ln} (hx : ∀ a ∈ xs, a.2.to = eS ∨ z_ac a.2.to = true) : (∃ x, x ∈ z_aY xs ∧ x ∈ z_bl ys) ↔ ∃ a ∈ xs, ∃ b ∈ ys, z_cW a b = true := by
 constructor
 ·rintro ⟨x, h1, h2⟩
  obtain ⟨a, ha, rfl, hs⟩ := mem_setsL.1 h1
  rcases mem_touchL.1 h2 with h | ⟨b, hb, hm, _⟩
  ·obtain ⟨b, hb, e, _⟩ := mem_setsL.1 h
   exact ⟨a, ha, b, hb, meddB_iff.2 ⟨hs, .inl e.symm⟩⟩
  ·exact ⟨a, ha, b, hb, meddB_iff.2 ⟨hs, .inr hm⟩⟩
 ·rintro ⟨a, ha, b, hb, h⟩
  obtain ⟨hs, h⟩ := meddB_iff.1 h
  refine ⟨a.2.to, mem_setsL.2 ⟨a, ha, rfl, hs⟩, mem_touchL.2 ?_⟩
  rcases h with h | h
  ·exact .inl (mem_setsL.2 ⟨b, hb, h.symm, hs⟩)
  ·refine .inr ⟨b, hb, h, ?_⟩
   rcases hx a ha with e | e
   ·rw [e] at hs; exact absurd rfl hs
   ·exact e
theorem z_lg {l m : Ln} {xs ys : List Ln} (hl : z_lM l) (hm : z_lM m) (hx : ∀ a ∈ xs, a.2.to = eS ∨ z_ac a.2.to = true) (hy : ∀ a ∈ ys, a.2.to = eS ∨ z_ac a.2.to = true) :
  0 < z_gh (l :: xs) (m :: ys) ↔ z_a5 xs ys = true := by
 have e1 : 0 < (comm (z_aY (l :: xs)) (z_bl (m :: ys))).length ↔ ∃ a ∈ xs, ∃ b ∈ ys, z_cW a b = true := by
  rw [z_gK, ← z_ge hx]
  simp only [z_d4 hl, z_eQ hm]
 have e2 : 0 < (comm (z_aY (m :: ys)) (z_bl (l :: xs))).length ↔ ∃ b ∈ ys, ∃ a ∈ xs, z_cW b a = true := by
  rw [z_gK, ← z_ge hy]
  simp only [z_d4 hm, z_eQ hl]
 have e3 : 0 < (comm (z_bm (l :: xs)) (z_bm (m :: ys))).length ↔ ∃ a ∈ xs, ∃ b ∈ ys, sigB a b = true := by
  rw [z_gK]
  simp only [z_f6 hl, z_f6 hm, z_h1]
  constructor
  ·rintro ⟨x, ⟨a, ha, h5, e⟩, ⟨b, hb, h5', e'⟩⟩
   exact ⟨a, ha, b, hb, sigB_iff.2 ⟨h5, h5', e.trans e'.symm⟩⟩
  ·rintro ⟨a, ha, b, hb, h⟩
   obtain ⟨h5, h5', e⟩ := sigB_iff.1 h
   exact ⟨a.2.name, ⟨a, ha, h5, rfl⟩, ⟨b, hb, h5', e.symm⟩⟩
 have e4 : z_a5 xs ys = true ↔ ∃ a ∈ xs, ∃ b ∈ ys, (z_cW a b = true ∨ z_cW b a = true ∨ sigB a b = true) := by
  unfold z_a5 z_ey
  simp only [List.any_eq_true, Bool.or_eq_true]
 rw [e4]
 unfold z_gh
 constructor
 ·intro h
  have h' : 0 < (comm (z_aY (l :: xs)) (z_bl (m :: ys))).length ∨ 0 < (comm (z_aY (m :: ys)) (z_bl (l :: xs))).length ∨ 0 < (comm (z_bm (l :: xs)) (z_bm (m :: ys))).length := by omega
  rcases h' with h | h | h
  ·obtain ⟨a, ha, b, hb, h⟩ := e1.1 h; exact ⟨a, ha, b, hb, .inl h⟩
  ·obtain ⟨b, hb, a, ha, h⟩ := e2.1 h; exact ⟨a, ha, b, hb, .inr (.inl h)⟩
  ·obtain ⟨a, ha, b, hb, h⟩ := e3.1 h; exact ⟨a, ha, b, hb, .inr (.inr h)⟩
 ·rintro ⟨a, ha, b, hb, h | h | h⟩
  ·have := e1.2 ⟨a, ha, b, hb, h⟩; omega
  ·have := e2.2 ⟨b, hb, a, ha, h⟩; omega
  ·have := e3.2 ⟨a, ha, b, hb, h⟩; omega
def oK (o : Opn) : Int := if o.2 = true then (if o.1 = 9 then 10 else 7) else o.1
theorem z_k7 {f : Bool} {os : List Opn} {k : Int} (h : (k == 1) ≠ f) : z_bo f os k = none := by
 unfold z_bo
 have : ((k == 1) != f) = true := by simpa using h
 rw [if_neg]
 rw [z_aS, if_pos this]; simp
theorem z_iy {f : Bool} {os : List Opn} {k : Int} (h : (k == 1) = f) (ho : z_am k = true) : z_bo f os k = if 5 ≤ os.length then none else some (os ++ [(k, false)]) := by
 unfold z_bo
 have : ¬ ((k == 1) != f) = true := by simp [h]
 rw [z_aS, if_neg this, if_pos ho]
 by_cases h5 : 5 ≤ os.length
 ·rw [if_pos h5, if_neg]; simp [ho, h5]
 ·rw [if_neg h5, if_pos]; simp; omega
theorem z_ky {f : Bool} {os : List Opn} {k : Int} (h : (k == 1) = f) (ho : z_am k = false) (hc : z_ae k = false) : z_bo f os k = some os := by
 have : ¬ ((k == 1) != f) = true := by simp [h]
 have e : z_aS os k f = (os, true) := by rw [z_aS, if_neg this, if_neg (by simp [ho]), if_pos (by simp [hc])]
 unfold z_bo
 rw [e, if_pos]
 simp [ho]
theorem z_hH {k : Int} (hc : z_ae k = true) : z_bo false [] k = none := by
 cases h : z_bo false [] k with
 | none => rfl
 | some x => exact absurd h (z_c0 hc)
theorem z_ia {os : List Opn} {o : Opn} : z_bo false (os ++ [o]) 7 = if z_aE (oK o) = true then some (os ++ [(o.1, true)]) else none := by
 obtain ⟨x, t⟩ := o
 unfold z_bo
 have e1 : z_aS (os ++ [(x, t)]) 7 false = (os ++ [(x, true)], z_aE x && !t) := by
  simp [z_aS, z_am, z_ae, z_aE]
 rw [e1]
 have e2 : z_am 7 = false := rfl
 cases t with
 | true =>
  have : z_aE (oK (x, true)) = false := by
   simp only [oK, if_true]; split <;> rfl
  rw [this, if_neg (by simp), if_neg (by simp)]
 | false =>
  have : oK (x, false) = x := rfl
  rw [this]
  by_cases hx : z_aE x = true
  ·rw [if_pos (by simp [hx, e2]), if_pos hx]
  ·rw [if_neg (by simp [hx]), if_neg hx]
theorem z_kl {os : List Opn} {o : Opn} : z_bo false (os ++ [o]) 10 = if oK o = 9 then some (os ++ [(o.1, true)]) else none := by
 obtain ⟨x, t⟩ := o
 unfold z_bo
 have e1 : z_aS (os ++ [(x, t)]) 10 false = (os ++ [(x, true)], (x == 9) && !t) := by
  simp [z_aS, z_am, z_ae, z_aE]
 rw [e1]
 have e2 : z_am 10 = false := rfl
 cases t with
 | true =>
  have : ¬ oK (x, true) = 9 := by
   simp only [oK, if_true]; split <;> decide
  rw [if_neg this, if_neg (by simp)]
 | false =>
  have : oK (x, false) = x := rfl
  rw [this]
  by_cases hx : x = 9
  ·rw [if_pos (by simp [hx, e2]), if_pos hx]
  ·rw [if_neg (by simp [hx]), if_neg hx]
theorem z_jR {os : List Opn} {o : Opn} : z_bo false (os ++ [o]) 11 = if oK o = 9 then none else some os := by
 obtain ⟨x, t⟩ := o
 unfold z_bo
 have e1 : z_aS (os ++ [(x, t)]) 11 false = (os, (x != 9) || t) := by
  simp [z_aS, z_am, z_ae, z_aE]
 rw [e1]
 have e2 : z_am 11 = false := rfl
 cases t with
 | true =>
  have : ¬ oK (x, true) = 9 := by
   simp only [oK, if_true]; split <;> decide
  rw [if_neg this, if_pos (by simp [e2])]
 | false =>
  have : oK (x, false) = x := rfl
  rw [this]
  by_cases hx : x = 9
  ·rw [if_pos hx, if_neg (by simp [hx])]
  ·rw [if_neg hx, if_pos (by simp [hx, e2])]
end
end Go.Proofs.YtlbjjbolbopfmaaGreatDoor
