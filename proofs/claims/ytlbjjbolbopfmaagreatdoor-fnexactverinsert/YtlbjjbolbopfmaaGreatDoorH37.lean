import Derived.Test.YtlbjjbolbopfmaaGreatDoorH36
import Derived.Test.YtlbjjbolbopfmaaGreatDoorH20
import Derived.Test.YtlbjjbolbopfmaaGreatDoorH28
import Derived.Test.YtlbjjbolbopfmaaGreatDoorH17
import Derived.Test.YtlbjjbolbopfmaaGreatDoorH35
import Derived.Deep.CutRange
namespace Go.Proofs.YtlbjjbolbopfmaaGreatDoor
set_option maxHeartbeats 4000000
set_option maxRecDepth 1000000
set_option linter.unusedVariables false
section
open Go.RowKit
theorem boxes2 {w w1 : World} {a0 a1 a2 a3 a4 b0 b1 b2 b3 b4 : Value} {s t : TypeId}
  (h : Below ((w.alloc (.cells #[a0, a1, a2, a3, a4] s)).alloc (.cells #[b0, b1, b2, b3, b4] t)).heap.size ((w.alloc (.cells #[a0, a1, a2, a3, a4] s)).alloc (.cells #[b0, b1, b2, b3, b4] t)) w1) :
  Hid (Below w.heap.size w w1) ∧ w.heap.size + 2 ≤ w1.heap.size ∧ (w1.cell? ⟨w.heap.size, 0, none⟩ = some a0 ∧ w1.cell? ⟨w.heap.size, 1, none⟩ = some a1 ∧ w1.cell? ⟨w.heap.size, 2, none⟩ = some a2 ∧ w1.cell? ⟨w.heap.size, 3, none⟩ = some a3 ∧ w1.cell? ⟨w.heap.size, 4, none⟩ = some a4)
  ∧ (w1.cell? ⟨w.heap.size + 1, 0, none⟩ = some b0 ∧ w1.cell? ⟨w.heap.size + 1, 1, none⟩ = some b1 ∧ w1.cell? ⟨w.heap.size + 1, 2, none⟩ = some b2 ∧ w1.cell? ⟨w.heap.size + 1, 3, none⟩ = some b3 ∧ w1.cell? ⟨w.heap.size + 1, 4, none⟩ = some b4)
  ∧ (∀ j, w1.frozen? ⟨w.heap.size, j, none⟩ = false) ∧ (∀ j, w1.frozen? ⟨w.heap.size + 1, j, none⟩ = false) := by
 have hB : Below w.heap.size w w1 := (((Below.refl _ _).alloc (Nat.le_refl _) _).alloc (by simp) _).trans (h.mono (by simp; omega))
 have hs : w.heap.size + 2 ≤ w1.heap.size := by have := h.size; simpa using this
 have hc0 := fun j => h.cell (p := ⟨w.heap.size, j, none⟩) (by simp; omega)
 have hc1 := fun j => h.cell (p := ⟨w.heap.size + 1, j, none⟩) (by simp)
 have hf0 := fun j => h.frozen (p := ⟨w.heap.size, j, none⟩) (by simp; omega)
 have hf1 := fun j => h.frozen (p := ⟨w.heap.size + 1, j, none⟩) (by simp)
 refine ⟨hB, hs, ⟨?_, ?_, ?_, ?_, ?_⟩, ⟨?_, ?_, ?_, ?_, ?_⟩, fun j => ?_, fun j => ?_⟩
 all_goals first | (rw [hc0]; simp [go_sem]; done) | (rw [hc1]; simp [go_sem]; done) | (rw [hf0]; simp [go_sem]; done) | (rw [hf1]; simp [go_sem]; done)
theorem copyLine_any (l : Ln) (ao : Option Addr) (cap : Nat) (w : World) (hz : l.2.args.length ≤ 1048576) (hi : StrsAt 0 w.heap.size w ao l.2.args) :
  Calls Tryz.prog 57 #[.agg #[.int .i64 l.1, .string l.2.to, .string l.2.name, .slice ao l.2.args.length cap, .string l.2.undo]] w fun e w' => ∃ u, e = .returned (lnVal l u) ∧ Below w.heap.size w w' ∧ w'.ownsRow w.heap.size 9 1 u l.2.args.length (strCells l.2.args) := by
 have HI : Hid (StrsAt 0 w.heap.size w ao l.2.args) := hi
 clear hi
 obtain ⟨k, d⟩ := l
 simp only at HI hz ⊢
 go_enter Tryz.func57, Tryz.ntmps57
 go_wp2_with fail
 refine (newWords_own ao cap d.args _ (by omega) (HI.out.later (((Below.refl _ _).alloc (Nat.le_refl _) _).alloc (by simp) _))).mono ?_
 rintro e w1 ⟨u, rfl, hb1, ho1⟩
 obtain ⟨HB, hs, ⟨x0, x1, x2, x3, x4⟩, ⟨y0, y1, y2, y3, y4⟩, f0, f1⟩ := boxes2 hb1
 obtain ⟨uo, uc, rfl, huc⟩ := own_form ho1
 have HO : Hid (w1.ownsRow (w.heap.size + 1 + 1) 9 1 (.slice uo d.args.length uc) d.args.length (strCells d.args)) := by simpa [Hid] using ho1
 clear hb1 ho1
 go_wp2
 refine bodyPost_ret (v := .agg #[.int .i64 k, .string d.to, .string d.name, .slice uo d.args.length uc, .string d.undo]) (by simp [results, Tryz.results57, go_sem, y0, y1, y2, y3, y4]) rfl ?_
 have hn0 : (Value.slice uo d.args.length uc).ownBlock ≠ some w.heap.size := fun e => by have := (HO.out.lt _ e).1; omega
 have hn1 : (Value.slice uo d.args.length uc).ownBlock ≠ some (w.heap.size + 1) := fun e => by have := (HO.out.lt _ e).1; omega
 refine ⟨_, rfl, ?_, ?_⟩
 ·exact (((((HB.out.setCell (by simp) _).setCell (by simp) _).setCell (by simp) _).setCell (by simp) _).setCell (by simp) _).setCell (by simp) _
 ·exact own_mono (own_set_far (own_set_far (own_set_far (own_set_far (own_set_far (own_set_far HO.out hn0 _) hn1 _) hn1 _) hn1 _) hn1 _) hn1 _) (by omega)
theorem copied_some (ao : Option Addr) (cap : Nat) (ls : List Ln) (w : World) (h0 : 0 < ls.length) (hl : ls.length ≤ 1048576) (hz : ∀ l ∈ ls, LnSz l) (hi : LinesAt w.heap.size w ao ls) :
  Calls Tryz.prog 56 #[.slice ao ls.length cap, .func (.func 57) #[] #[]] w fun e w' => ∃ (v : Value) (ps : List (Ln × Value)), e = .returned v ∧ Below w.heap.size w w' ∧ ps.map (·.1) = ls ∧ OwnLn w.heap.size w' v ps := by
 have HI : Hid (LinesAt w.heap.size w ao ls) := hi
 have HZ : Hid (∀ l ∈ ls, LnSz l) := hz
 clear hi hz
 have hq0 : ((ls.length : Int) == 0) = false := beq_eq_false_iff_ne.2 (by omega)
 obtain ⟨i0, hi0, hz0, hz1, hz2⟩ := info_parts Tryz.infoLn
 go_enter Tryz.func56, Tryz.ntmps56
 go_wp2_with (at_make; refine wpList_make_full _ rfl _ _ 27 rfl w.heap.size 49 i0 (.agg #[.int .i64 0, .string ⟨#[]⟩, .string ⟨#[]⟩, .slice none 0 0, .string ⟨#[]⟩]) 5 Tryz.underlying27 hi0 hz0 hz1 _ _ _ _ ls.length rfl rfl rfl rfl (by rw [hz2]; omega) (by unfold maxLen; omega) (Nat.le_refl _) ?_; intro w1 hown hgrow)
 have hbel : Below w.heap.size w w1 := (Below.refl _ _).grown hgrow (Nat.le_refl _) (by simp)
 obtain ⟨xs0, hxs0⟩ : ∃ xs0, xs0 = (madeCells (Value.agg #[.int .i64 0, .string ⟨#[]⟩, .string ⟨#[]⟩, .slice none 0 0, .string ⟨#[]⟩]).cells (ls.length * 5)).toList := ⟨_, rfl⟩
 rw [← hxs0] at hown
 clear hgrow hxs0
 go_loopw [16] (fun i wr => ∃ (k : Nat) (ps : List (Ln × Value)) (xs : List Value), k ≤ ls.length ∧ i = .int .i64 k ∧ ps.length = k ∧ Hid (ps.map (·.1) = ls.take k) ∧ Hid (wr.ownsRow w.heap.size 49 5 (.slice (some ⟨w.heap.size, 0, none⟩) ls.length ls.length) ls.length ((ps.flatMap fun p => lnC p.1 p.2) ++ xs)) ∧ Hid (∀ p ∈ ps, wr.ownsRow w.heap.size 9 1 p.2 (lnA p.1).length (strCells (lnA p.1))) ∧ Hid (ps.Pairwise fun p q => ∀ k, p.2.ownBlock = some k → q.2.ownBlock ≠ some k) ∧ Hid (Below w.heap.size w wr)) (fun i _ => ls.length - (intOf i).toNat)
 case atStart => exact ⟨0, [], xs0, Nat.zero_le _, rfl, rfl, by simp [Hid], by simpa [Hid] using hown, by simp [Hid], List.Pairwise.nil, hbel⟩
 case round =>
  clear hown hbel
  obtain ⟨k, ps, xs, hk, rfl, hpl, HM, HO, HA, HP, HB⟩ := hrel
  by_cases hlt : k < ls.length
  ·obtain ⟨b, off, rfl, hB, ao2, cap2, hc2, q0, q1, q2, q3, q4, hA⟩ := HI.out k hlt
   have c0 := (HB.out.cell (p := ⟨b, off + k * 5, none⟩) hB).trans q0
   have c1 := (HB.out.cell (p := ⟨b, off + k * 5 + 1, none⟩) hB).trans q1
   have c2 := (HB.out.cell (p := ⟨b, off + k * 5 + 2, none⟩) hB).trans q2
   have c3 := (HB.out.cell (p := ⟨b, off + k * 5 + 3, none⟩) hB).trans q3
   have c4 := (HB.out.cell (p := ⟨b, off + k * 5 + 4, none⟩) hB).trans q4
   have HAr : Hid (StrsAt 0 w.heap.size w ao2 ls[k].2.args) := hA
   have hsz := (HZ.out _ (List.getElem_mem hlt)).len
   have hgs := HB.out.size
   have hgr : w.heap.size < wr.heap.size := (HO.out.lt _ rfl).2
   clear q0 q1 q2 q3 q4 hA
   go_wp2_with fail
   refine (copyLine_any ls[k] ao2 cap2 _ hsz (HAr.out.later (HB.out.alloc hgs _))).mono ?_
   rintro e w2 ⟨u, rfl, hb2, ho2⟩
   replace hb2 : Below wr.heap.size wr w2 := ((Below.refl wr.heap.size wr).alloc (Nat.le_refl _) _).trans (hb2.mono (by simp))
   replace ho2 := own_mono ho2 (show wr.heap.size ≤ _ by simp)
   obtain ⟨uo, uc, rfl, huc⟩ := own_form ho2
   have HU : Hid (w2.ownsRow wr.heap.size 9 1 (.slice uo ls[k].2.args.length uc) (lnA ls[k]).length (strCells (lnA ls[k]))) := ho2
   have HO2 : Hid (w2.ownsRow w.heap.size 49 5 (.slice (some ⟨w.heap.size, 0, none⟩) ls.length ls.length) ls.length ((ps.flatMap fun p => lnC p.1 p.2) ++ xs)) := own_below HO.out hb2
   have hfl := flat_count (F := fun p : Ln × Value => lnC p.1 p.2) (fun b => lnC_len b.1 b.2) ps
   have hxl : 5 ≤ xs.length := by
    have h1 := HO2.out.1
    rw [List.length_append, hfl, hpl] at h1
    omega
   obtain ⟨x0, x1, x2, x3, x4, xr, rfl⟩ := five_of hxl
   have hcell : ∀ j, w2.cell? ⟨w.heap.size, k * 5 + j, none⟩ = if k * 5 + j < ls.length * 5 then (((ps.flatMap fun p => lnC p.1 p.2) ++ x0 :: x1 :: x2 :: x3 :: x4 :: xr)[k * 5 + j]?) else w2.cell? ⟨w.heap.size, k * 5 + j, none⟩ := fun j => by
    split
    ·rename_i h; exact HO2.out.cellAt _ h
    ·rfl
   have hnth : ∀ j, ((ps.flatMap fun p => lnC p.1 p.2) ++ x0 :: x1 :: x2 :: x3 :: x4 :: xr)[k * 5 + j]? = (x0 :: x1 :: x2 :: x3 :: x4 :: xr)[j]? := fun j => by
    rw [List.getElem?_append_right (by rw [hfl, hpl]; omega), hfl, hpl, Nat.add_sub_cancel_left]
   have d0 : w2.cell? ⟨w.heap.size, k * 5, none⟩ = some x0 := by have := hcell 0; rw [if_pos (by omega), hnth] at this; exact this
   have d1 : w2.cell? ⟨w.heap.size, k * 5 + 1, none⟩ = some x1 := by have := hcell 1; rw [if_pos (by omega), hnth] at this; exact this
   have d2 : w2.cell? ⟨w.heap.size, k * 5 + 2, none⟩ = some x2 := by have := hcell 2; rw [if_pos (by omega), hnth] at this; exact this
   have d3 : w2.cell? ⟨w.heap.size, k * 5 + 3, none⟩ = some x3 := by have := hcell 3; rw [if_pos (by omega), hnth] at this; exact this
   have d4 : w2.cell? ⟨w.heap.size, k * 5 + 4, none⟩ = some x4 := by have := hcell 4; rw [if_pos (by omega), hnth] at this; exact this
   have hf := HO2.out.frozenAt
   have HT : Hid (∀ (n : Nat) (u : Value) (xs : List Value), w2.ownsRow w.heap.size 9 1 u n xs → u.ownBlock ≠ some w.heap.size) := fun n u xs hu => own_types HO2.out hu (by decide) _ rfl
   have HS := own_set5 HO2.out (k * 5) (.int .i64 ls[k].1) (.string ls[k].2.to) (.string ls[k].2.name) (.slice uo ls[k].2.args.length uc) (.string ls[k].2.undo)
   rw [fill5 _ _ _ _ _ _ _ _ _ _ _ _ (k * 5) (by rw [hfl, hpl])] at HS
   have HS2 : Hid _ := HS
   have HB2 : Hid (Below w.heap.size w w2) := HB.out.trans (hb2.mono hgs)
   have HA2 : Hid (∀ p ∈ ps, w2.ownsRow w.heap.size 9 1 p.2 (lnA p.1).length (strCells (lnA p.1))) := fun p hp => own_below (HA.out p hp) hb2
   clear hcell hnth HS hb2 ho2 HO HO2
   unfold lnVal
   go_wp2
   go_roundw
   case rel =>
    have far : ∀ (n : Nat) (u : Value) (xs : List Value), w2.ownsRow w.heap.size 9 1 u n xs → (((((w2.setCell ⟨w.heap.size, k * 5, none⟩ (.int .i64 ls[k].1)).setCell ⟨w.heap.size, k * 5 + 1, none⟩ (.string ls[k].2.to)).setCell ⟨w.heap.size, k * 5 + 2, none⟩ (.string ls[k].2.name)).setCell ⟨w.heap.size, k * 5 + 3, none⟩ (.slice uo ls[k].2.args.length uc)).setCell ⟨w.heap.size, k * 5 + 4, none⟩ (.string ls[k].2.undo)).ownsRow w.heap.size 9 1 u n xs := fun n u xs hu =>
     own_set_far (own_set_far (own_set_far (own_set_far (own_set_far hu (HT.out _ _ _ hu) _) (HT.out _ _ _ hu) _) (HT.out _ _ _ hu) _) (HT.out _ _ _ hu) _) (HT.out _ _ _ hu) _
    refine ⟨k + 1, ps ++ [(ls[k], .slice uo ls[k].2.args.length uc)], xr, by omega, by go_num, by simp [hpl], ?_, ?_, ?_, ?_, ?_⟩
    ·show _ = _; rw [List.map_append, HM.out, List.take_succ_eq_append_getElem hlt]; rfl
    ·have e : ((ps ++ [(ls[k], Value.slice uo ls[k].2.args.length uc)]).flatMap fun p => lnC p.1 p.2) = (ps.flatMap fun p => lnC p.1 p.2) ++ [.int .i64 ls[k].1, .string ls[k].2.to, .string ls[k].2.name, .slice uo ls[k].2.args.length uc, .string ls[k].2.undo] := by
      rw [List.flatMap_append]; rfl
     show World.ownsRow _ _ _ _ _ _ _
     rw [e]; exact HS2.out
    ·intro q hq
     rcases List.mem_append.1 hq with hq | hq
     ·exact far _ _ _ (HA2.out q hq)
     ·have : q = (ls[k], Value.slice uo ls[k].2.args.length uc) := by simpa using hq
      subst this
      exact far _ _ _ (own_mono HU.out hgs)
    ·refine apart_snoc HP.out fun q hq j hj hj' => ?_
     have h1 := ((HA.out q hq).lt j hj).2
     have h2 := (HU.out.lt j hj').1
     omega
    ·exact ((((HB2.out.setCell (Nat.le_refl _) _).setCell (Nat.le_refl _) _).setCell (Nat.le_refl _) _).setCell (Nat.le_refl _) _).setCell (Nat.le_refl _) _
   case measure => simp [intOf]; omega
  ·go_wp2
   go_ret
   have e : k = ls.length := by omega
   have hx : xs = [] := by
    have h1 := HO.out.1
    rw [List.length_append, flat_count (F := fun p : Ln × Value => lnC p.1 p.2) (fun b => lnC_len b.1 b.2) ps, hpl, e] at h1
    exact List.length_eq_zero_iff.1 (by omega)
   have hm : ps.map (·.1) = ls := by rw [HM.out, e, List.take_length]
   refine ⟨_, ps, rfl, HB.out, hm, ?_, HA.out, HP.out⟩
   have hr := HO.out
   rw [hx, List.append_nil] at hr
   rw [hpl, e]; exact hr
theorem copied_any (ao : Option Addr) (cap : Nat) (ls : List Ln) (w : World) (hl : ls.length ≤ 1048576) (hz : ∀ l ∈ ls, LnSz l) (hi : LinesAt w.heap.size w ao ls) :
  Calls Tryz.prog 56 #[.slice ao ls.length cap, .func (.func 57) #[] #[]] w fun e w' => ∃ (v : Value) (ps : List (Ln × Value)), e = .returned v ∧ Below w.heap.size w w' ∧ ps.map (·.1) = ls ∧ OwnLn w.heap.size w' v ps := by
 by_cases h0 : 0 < ls.length
 ·exact copied_some ao cap ls w h0 hl hz hi
 ·have e : ls = [] := List.length_eq_zero_iff.1 (by omega)
  subst e
  go_enter Tryz.func56, Tryz.ntmps56
  go_wp2
  go_ret
  exact ⟨_, [], rfl, Below.refl _ _, rfl, World.ownsRow_nil _ _ _ _, fun p hp => absurd hp (by simp), List.Pairwise.nil⟩
end
section
open Go.RowKit
def betw (f t : Nat) (ls : List Ln) : List Ln := (ls.drop f).take (t - f)
def swapLs (f t : Nat) (name : ByteArray) (ls ms : List Ln) : List Ln := ls.take f ++ (patchLs name ms (betw f t ls) ++ ls.drop t)
def SwapOk (ls : List Ln) (f t : Int) (name : ByteArray) (ms : List Ln) : Prop :=
 CheckC 0 ls ∧ 1 ≤ f ∧ f ≤ t ∧ t ≤ ls.length ∧ evenB (betw f.toNat t.toNat ls) = true ∧ evenB ms = true ∧ patchB ls name = false ∧ patchB ms name = false ∧ CheckC 0 (swapLs f.toNat t.toNat name ls ms)
def SwapE (w : World) (ls : List Ln) (f t : Int) (name : ByteArray) (ms : List Ln) (e : Ending) (w' : World) : Prop :=
 ∃ (v : Value) (ok : Bool) (ps : List (Ln × Value)), e = .returned (.tuple #[v, .bool ok]) ∧ Below w.heap.size w w' ∧ OwnLn w.heap.size w' v ps ∧
  ((ok = false ∧ ¬ SwapOk ls f t name ms ∧ ps = []) ∨ (ok = true ∧ SwapOk ls f t name ms ∧ ps.map (·.1) = swapLs f.toNat t.toNat name ls ms))
theorem swap_no {w w' : World} {ls : List Ln} {f t : Int} {name : ByteArray} {ms : List Ln} (hb : Below w.heap.size w w') (hn : ¬ SwapOk ls f t name ms) : SwapE w ls f t name ms (.returned (.tuple #[.slice none 0 0, .bool false])) w' :=
 ⟨_, false, [], rfl, hb, ⟨World.ownsRow_nil _ _ _ _, fun p hp => absurd hp (by simp), List.Pairwise.nil⟩, .inl ⟨rfl, hn, rfl⟩⟩
theorem check_no {ls : List Ln} {b : Int} (h : CheckC b ls) (hb : b ≠ 0) : ¬ CheckC 0 ls := fun h0 => hb ((checkC_same h0 h).1 rfl)
theorem Tryz.fieldCode2 (a b : Int) (w : World) : (Instr.field 43 (.agg #[.int .i64 a, .int .i64 b]) 1).run Tryz.prog w = .ok (.int .i64 b) w := by kernel_rfl
theorem betw_len (f t : Nat) (ls : List Ln) (h : f ≤ t) (ht : t ≤ ls.length) : (betw f t ls).length = t - f := by
 unfold betw; rw [List.length_take, List.length_drop]; omega
theorem flowCheck_long2 (ao : Option Addr) (cap : Nat) (ls : List Ln) (w : World) (hcap : ls.length ≤ cap) (hl : 60 < ls.length) (hl2 : ls.length ≤ 4194304) :
  Calls Tryz.prog 27 #[.slice ao ls.length cap] w fun e w' => ∃ a b : Int, e = .returned (.agg #[.int .i64 a, .int .i64 b]) ∧ Below w.heap.size w w' ∧ CheckC b ls := by
 have HL : Hid (60 < ls.length) := hl
 go_enter Tryz.func27, Tryz.ntmps27
 go_wp2
 refine bodyPost_ret (v := .agg #[.int .i64 0, .int .i64 8]) (by simp [results, Tryz.results27, go_sem]) rfl ?_
 exact ⟨_, _, rfl, (Below.refl _ _).alloc (Nat.le_refl _) _, .inr ⟨by decide, .inl HL.out⟩⟩
theorem flowCheck_any2 (ao : Option Addr) (cap : Nat) (ls : List Ln) (w : World) (hcap : ls.length ≤ cap) (hl : ls.length ≤ 4194304) (hi : LinesAt w.heap.size w ao ls) (hz : ∀ l ∈ ls, LnSz l) (he : Env w) :
  Calls Tryz.prog 27 #[.slice ao ls.length cap] w fun e w' => ∃ a b : Int, e = .returned (.agg #[.int .i64 a, .int .i64 b]) ∧ Below w.heap.size w w' ∧ CheckC b ls := by
 by_cases h : 60 < ls.length
 ·exact flowCheck_long2 ao cap ls w hcap h hl
 ·exact flowCheck_any ao cap ls w hcap (by omega) hi hz he
theorem lists_three {W : World} {c : Nat} {a0 a1 a2 : Option Addr} {n0 n1 n2 c0 c1 c2 : Nat} {L0 L1 L2 : List Ln} (h0 : W.cell? ⟨c, 0, none⟩ = some (.slice a0 n0 c0)) (h1 : W.cell? ⟨c, 1, none⟩ = some (.slice a1 n1 c1)) (h2 : W.cell? ⟨c, 2, none⟩ = some (.slice a2 n2 c2))
  (e0 : L0.length = n0) (e1 : L1.length = n1) (e2 : L2.length = n2) (k0 : n0 ≤ c0) (k1 : n1 ≤ c1) (k2 : n2 ≤ c2) (z0 : a0 = none → c0 = 0) (z1 : a1 = none → c1 = 0) (z2 : a2 = none → c2 = 0)
  (i0 : LinesAt W.heap.size W a0 L0) (i1 : LinesAt W.heap.size W a1 L1) (i2 : LinesAt W.heap.size W a2 L2) : ListsAt W c [L0, L1, L2] := by
 subst e0 e1 e2
 intro k hk
 rcases k with _ | _ | _ | k
 ·exact ⟨a0, c0, h0, k0, z0, i0⟩
 ·exact ⟨a1, c1, h1, k1, z1, i1⟩
 ·exact ⟨a2, c2, h2, k2, z2, i2⟩
 ·simp only [List.length_cons, List.length_nil] at hk
  omega
theorem patchLs_len (name : ByteArray) (ls ms : List Ln) : ls.length + 2 ≤ (patchLs name ls ms).length ∧ (patchLs name ls ms).length ≤ ls.length + ms.length + 3 := by
 unfold patchLs
 split <;> simp <;> omega
theorem rowL_some {base : Nat} {w : World} {v : Value} {ps : List (Ln × Value)} (h : RowL base w v ps) (h0 : 0 < ps.length) : ∃ g cap, v = .slice (some ⟨g, 0, none⟩) ps.length cap ∧ ps.length ≤ cap ∧ LinesAt w.heap.size w (some ⟨g, 0, none⟩) (ps.map (·.1)) := by
 obtain ⟨ao, cap, e, hc, hl⟩ := h.lines
 rcases h.row.2 with ⟨_, h1⟩ | ⟨g, cap', cur, e', _⟩
 ·omega
 ·rw [e] at e'
  simp only [Value.slice.injEq] at e'
  obtain ⟨rfl, _, rfl⟩ := e'
  exact ⟨g, cap, e, hc, hl⟩
theorem swap_lists {w W : World} {b off xt cap f t g n c y yc : Nat} {ls q : List Ln} (hb : Below w.heap.size w W) (hi : LinesAt w.heap.size w (some ⟨b, off, none⟩) ls) (hx : LinesAt w.heap.size w (some ⟨b, xt, none⟩) (ls.drop t)) (hf : f ≤ ls.length) (ht : t ≤ ls.length) (hcap : ls.length ≤ cap) (hn : q.length = n) (hc : n ≤ c) (hy : ls.length - t = y) (hyc : y ≤ yc) (hq : LinesAt W.heap.size W (some ⟨g, 0, none⟩) q) :
  ListsAt (W.alloc (.cells #[.slice (some ⟨b, off, none⟩) f cap, .slice (some ⟨g, 0, none⟩) n c, .slice (some ⟨b, xt, none⟩) y yc] 27)) W.heap.size [ls.take f, q, ls.drop t] := by
 have hB : Below W.heap.size W (W.alloc (.cells #[.slice (some ⟨b, off, none⟩) f cap, .slice (some ⟨g, 0, none⟩) n c, .slice (some ⟨b, xt, none⟩) y yc] 27)) := (Below.refl _ _).alloc (Nat.le_refl _) _
 have hB2 := hb.trans (hB.mono hb.size)
 have h0 : (W.alloc (.cells #[.slice (some ⟨b, off, none⟩) f cap, .slice (some ⟨g, 0, none⟩) n c, .slice (some ⟨b, xt, none⟩) y yc] 27)).cell? ⟨W.heap.size, 0, none⟩ = some (.slice (some ⟨b, off, none⟩) f cap) := by simp
 have h1 : (W.alloc (.cells #[.slice (some ⟨b, off, none⟩) f cap, .slice (some ⟨g, 0, none⟩) n c, .slice (some ⟨b, xt, none⟩) y yc] 27)).cell? ⟨W.heap.size, 1, none⟩ = some (.slice (some ⟨g, 0, none⟩) n c) := by simp
 have h2 : (W.alloc (.cells #[.slice (some ⟨b, off, none⟩) f cap, .slice (some ⟨g, 0, none⟩) n c, .slice (some ⟨b, xt, none⟩) y yc] 27)).cell? ⟨W.heap.size, 2, none⟩ = some (.slice (some ⟨b, xt, none⟩) y yc) := by simp
 exact lists_three h0 h1 h2 (by rw [List.length_take]; omega) hn (by rw [List.length_drop]; exact hy) (by omega) hc hyc (fun h => by cases h) (fun h => by cases h) (fun h => by cases h) ((hi.take f).later hB2) (hq.later hB) (hx.later hB2)
theorem swapLs_mem {f t : Nat} {name : ByteArray} {ls ms : List Ln} {P : Ln → Prop} (h1 : ∀ l ∈ ls, P l) (h2 : ∀ l ∈ ms, P l) (h3 : ∀ k : Int, P (lnK k name)) (h4 : ∀ k : Int, P (lnK k ⟨#[]⟩)) : ∀ l ∈ swapLs f t name ls ms, P l := by
 intro l hl
 unfold swapLs patchLs betw at hl
 simp only [List.mem_append, List.mem_cons, List.not_mem_nil, or_false] at hl
 rcases hl with hl | ((((rfl | hl) | hl) | rfl) | hl)
 all_goals first | exact h1 l (List.mem_of_mem_take hl) | exact h3 14 | exact h2 l hl | exact h4 11 | exact h1 l (List.mem_of_mem_drop hl) | skip
 split at hl
 ·simp only [List.mem_cons] at hl
  rcases hl with rfl | hl
  ·exact h4 7
  ·exact h1 l (List.mem_of_mem_drop (List.mem_of_mem_take hl))
 ·simp at hl
theorem lnK_sz {k : Int} {name : ByteArray} (h : name.size ≤ 1048576) : LnSz (lnK k name) := ⟨Nat.zero_le _, Nat.zero_le _, h, Nat.zero_le _, fun s hs => by simp [lnK] at hs⟩
theorem swapLs_len (f t : Nat) (name : ByteArray) (ls ms : List Ln) : (swapLs f t name ls ms).length ≤ 3 * ls.length + ms.length + 3 := by
 have h1 := (patchLs_len name ms (betw f t ls)).2
 have h2 : (betw f t ls).length ≤ ls.length := by unfold betw; rw [List.length_take, List.length_drop]; omega
 unfold swapLs
 rw [List.length_append, List.length_append, List.length_take, List.length_drop]
 omega
theorem checkC_len {ls : List Ln} (h : CheckC 0 ls) : ls.length ≤ 60 := by
 rcases h with ⟨_, h, _⟩ | ⟨h, _⟩
 ·exact h
 ·exact absurd rfl h
theorem swap_try (b off cap : Nat) (bo : Option Addr) (cb : Nat) (ls ms : List Ln) (f t : Nat) (name : ByteArray) (w : World) (hcap : ls.length ≤ cap) (hf : 1 ≤ f) (hft : f ≤ t) (ht : t ≤ ls.length) (hl : ls.length ≤ 1048576) (hl2 : ms.length ≤ 1048576) (hcx : t < cap)
  (hnb : bo = none → cb = 0) (hname : name.size ≤ 1048576) (hz : ∀ l ∈ ls, LnSz l) (hzm : ∀ l ∈ ms, LnSz l) (hi : LinesAt w.heap.size w (some ⟨b, off, none⟩) ls) (hj : LinesAt w.heap.size w bo ms) (he : Env w) (h0 : CheckC 0 ls) :
  Calls Tryz.prog 21 #[.slice (some ⟨b, off, none⟩) ls.length cap, .int .i64 f, .int .i64 t, .string name, .slice bo ms.length cb] w (SwapE w ls f t name ms) := by
 have HI : Hid (LinesAt w.heap.size w (some ⟨b, off, none⟩) ls) := hi
 have HJ : Hid (LinesAt w.heap.size w bo ms) := hj
 have HZ : Hid (∀ l ∈ ls, LnSz l) := hz
 have HE : Hid (Env w) := he
 have H0 : Hid (CheckC 0 ls) := h0
 have HZ2 : Hid (∀ l ∈ ms, LnSz l) := hzm
 have HNB : Hid (bo = none → cb = 0) := hnb
 clear hi hj hz he h0 hnb hzm
 have hb1 : ¬ (f : Int) < 1 := by omega
 have hb2 : ¬ (t : Int) < (f : Int) := by omega
 have hb3 : ¬ (t : Int) > (ls.length : Int) := by omega
 go_enter Tryz.func21, Tryz.ntmps21
 go_wp2_with fail
 refine (flowCheck_any (some ⟨b, off, none⟩) cap ls w hcap hl HI.out HZ.out HE.out).mono ?_
 rintro e w1 ⟨fa, fb, rfl, hbl, hck⟩
 have hfb : fb = 0 := (checkC_same H0.out hck).1 rfl
 subst hfb
 have HB1 : Hid (Below w.heap.size w w1) := hbl
 clear hbl hck
 have hfld : ∀ (a b : Int) (w : World), (Instr.field 43 (.agg #[.int .i64 a, .int .i64 b]) 1).run Tryz.prog w = .ok (.int .i64 b) w := Tryz.fieldCode2
 have HBt : Hid (LinesAt w.heap.size w (some ⟨b, off + f * 5, none⟩) (betw f t ls)) := (HI.out.drop f).take (t - f)
 have HX : Hid (∀ W, Below w.heap.size w W → Calls Tryz.prog 52 #[.slice (some ⟨b, off + f * 5, none⟩) (t - f) (cap - f)] W fun e w' => e = .returned (.bool (evenB (betw f t ls))) ∧ Below W.heap.size W w') := fun W hb => by
  have h := areEven_any (some ⟨b, off + f * 5, none⟩) (cap - f) (betw f t ls) W (by rw [betw_len f t ls hft ht]; omega) (HBt.out.later hb)
  rw [betw_len f t ls hft ht] at h
  exact h
 have HP : Hid (∀ W, Below w.heap.size w W → Calls Tryz.prog 55 #[.string name, .slice bo ms.length cb, .slice (some ⟨b, off + f * 5, none⟩) (t - f) (cap - f)] W fun e w' => ∃ v ps, e = .returned v ∧ Below W.heap.size W w' ∧ RowL W.heap.size w' v ps ∧ ps.map (·.1) = patchLs name ms (betw f t ls)) := fun W hb => by
  have h := patchOf_any name bo (some ⟨b, off + f * 5, none⟩) cb (cap - f) ms (betw f t ls) W hl2 (by rw [betw_len f t ls hft ht]; omega) HNB.out (fun h => by cases h) (HJ.out.later hb) (HBt.out.later hb)
  rw [betw_len f t ls hft ht] at h
  exact h
 have HXT : Hid (LinesAt w.heap.size w (some ⟨b, off + t * 5, none⟩) (ls.drop t)) := HI.out.drop t
 have HLN : Hid (2 ≤ (patchLs name ms (betw f t ls)).length ∧ (patchLs name ms (betw f t ls)).length ≤ 2097160) := by
  have h1 := patchLs_len name ms (betw f t ls)
  rw [betw_len f t ls hft ht] at h1
  exact ⟨by omega, by omega⟩
 have HFL : Hid ([ls.take f, patchLs name ms (betw f t ls), ls.drop t].flatten = swapLs f t name ls ms) := by simp [Hid, swapLs]
 have hls3 := swapLs_len f t name ls ms
 have hls2 : 0 < (swapLs f t name ls ms).length := by
  have := HLN.out.1
  rw [← HFL.out]; simp; omega
 have hls60 := checkC_len H0.out
 have HSL : Hid (0 < (swapLs f t name ls ms).length ∧ (swapLs f t name ls ms).length ≤ 4194304) := ⟨hls2, by omega⟩
 clear HBt hls2 hls3 hls60
 have no : ∀ (b : Bool), SwapOk ls f t name ms → True := fun _ _ => trivial
 go_wp2_with fail
 refine Calls.mono (HX.out w1 HB1.out) ?_
 rintro e w2 ⟨rfl, hb2⟩
 have HB2 : Hid (Below w.heap.size w w2) := HB1.out.trans (hb2.mono HB1.out.size)
 clear hb2
 cases e1 : evenB (betw f t ls) with
 | false =>
  have HN : Hid (¬ SwapOk ls f t name ms) := fun h => by have := h.2.2.2.2.1; rw [Int.toNat_natCast, Int.toNat_natCast, e1] at this; cases this
  go_wp2
  go_ret2
  exact swap_no HB2.out HN.out
 | true =>
 go_wp2_with fail
 refine (areEven_any bo cb ms w2 (by omega) (HJ.out.later HB2.out)).mono ?_
 rintro e w3 ⟨rfl, hb3⟩
 have HB3 : Hid (Below w.heap.size w w3) := HB2.out.trans (hb3.mono HB2.out.size)
 clear hb3
 cases e2 : evenB ms with
 | false =>
  have HN : Hid (¬ SwapOk ls f t name ms) := fun h => by have := h.2.2.2.2.2.1; rw [e2] at this; cases this
  go_wp2
  go_ret2
  exact swap_no HB3.out HN.out
 | true =>
 go_wp2_with fail
 refine (hasPatch_any (some ⟨b, off, none⟩) cap ls name w3 (by omega) (HI.out.later HB3.out)).mono ?_
 rintro e w4 ⟨rfl, hb4⟩
 have HB4 : Hid (Below w.heap.size w w4) := HB3.out.trans (hb4.mono HB3.out.size)
 clear hb4
 cases e3 : patchB ls name with
 | true =>
  have HN : Hid (¬ SwapOk ls f t name ms) := fun h => by have := h.2.2.2.2.2.2.1; rw [e3] at this; cases this
  go_wp2
  go_ret2
  exact swap_no HB4.out HN.out
 | false =>
 go_wp2_with fail
 refine (hasPatch_any bo cb ms name w4 (by omega) (HJ.out.later HB4.out)).mono ?_
 rintro e w5 ⟨rfl, hb5⟩
 have HB5 : Hid (Below w.heap.size w w5) := HB4.out.trans (hb5.mono HB4.out.size)
 clear hb5
 cases e4 : patchB ms name with
 | true =>
  have HN : Hid (¬ SwapOk ls f t name ms) := fun h => by have := h.2.2.2.2.2.2.2.1; rw [e4] at this; cases this
  go_wp2
  go_ret2
  exact swap_no HB5.out HN.out
 | false =>
 have HOk : Hid (CheckC 0 (swapLs f t name ls ms) → SwapOk ls f t name ms) := fun h => ⟨H0.out, by omega, by omega, by omega, by rw [Int.toNat_natCast, Int.toNat_natCast]; exact e1, e2, e3, e4, by rw [Int.toNat_natCast, Int.toNat_natCast]; exact h⟩
 have HNo : Hid (¬ CheckC 0 (swapLs f t name ls ms) → ¬ SwapOk ls f t name ms) := fun h h2 => by have := h2.2.2.2.2.2.2.2.2; rw [Int.toNat_natCast, Int.toNat_natCast] at this; exact h this
 clear e1 e2 e3 e4 HX
 go_upto_region 6 with fail
 go_cut [13] from 55 to 67 (fun v wx => Hid (∃ ps, RowL w.heap.size wx v ps ∧ ps.map (·.1) = swapLs f t name ls ms) ∧ Hid (Below w.heap.size w wx))
 case first =>
  go_region_with (first
   | (go_at_call 55; refine Calls.mono (HP.out _ (by first | exact HB5.out.drew | exact HB5.out)) ?_; rintro e w6 ⟨v6, ps6, rfl, hb6, hr6, hm6⟩; have hn6 : (patchLs name ms (betw f t ls)).length = ps6.length := (by rw [← hm6, List.length_map]); obtain ⟨g6, c6, rfl, hc6, hl6⟩ := rowL_some hr6 (by have := HLN.out.1; omega); rw [hm6] at hl6; have HL6 : Hid (LinesAt w6.heap.size w6 (some ⟨g6, 0, none⟩) (patchLs name ms (betw f t ls))) := hl6; have HN6 : Hid ((patchLs name ms (betw f t ls)).length = ps6.length) := hn6; have HB6 : Hid (Below w.heap.size w w6) := (by first | exact HB5.out.drew.trans (hb6.mono HB5.out.size) | exact HB5.out.trans (hb6.mono HB5.out.size)); clear hb6 hr6 hm6 hl6 hn6)
   | (go_at_call 54; refine (concat_any _ [ls.take f, patchLs name ms (betw f t ls), ls.drop t] _ (by simp) (by simp) (by rw [HFL.out]; exact HSL.out.1) (by rw [HFL.out]; have := HSL.out.2; omega) (swap_lists (by first | exact HB6.out.drew | exact HB6.out) HI.out HXT.out (by omega) ht hcap HN6.out hc6 (rfl) (by omega) (by first | exact HL6.out | exact HL6.out.later (Below.refl _ _).drew))).mono ?_; rintro e w8 ⟨v8, ps8, rfl, hb8, hr8, hm8⟩; rw [HFL.out] at hm8; have HM8 : Hid (ps8.map (·.1) = swapLs f t name ls ms) := hm8; have HR8 : Hid (RowL w.heap.size w8 v8 ps8) := hr8.mono (by have := HB6.out.size; simp; omega); have HB8 : Hid (Below w.heap.size w w8) := (by first | exact (HB6.out.drew.alloc HB6.out.size _).trans (hb8.mono (by have := HB6.out.size; simp; omega)) | exact (HB6.out.alloc HB6.out.size _).trans (hb8.mono (by have := HB6.out.size; simp; omega))); clear hb8 hr8 hm8))
  all_goals
   go_wp2_with fail
   go_meet
   case rel => exact ⟨⟨ps8, HR8.out, HM8.out⟩, HB8⟩
 case rest =>
  obtain ⟨HR, HB6⟩ := hcut
  obtain ⟨ps, hr, hm⟩ := HR.out
  have hpl : ps.length = (swapLs f t name ls ms).length := by rw [← hm, List.length_map]
  obtain ⟨g, cp, hv, hcp, hli⟩ := rowL_some hr (by rw [hpl]; exact HSL.out.1)
  rw [hm] at hli
  rw [hpl] at hcp hv
  subst hv
  have HQS : Hid (∀ l ∈ swapLs f t name ls ms, LnSz l) := swapLs_mem HZ.out HZ2.out (fun k => lnK_sz hname) (fun k => lnK_sz (Nat.zero_le _))
  have hq2 := HSL.out.2
  obtain ⟨q, hq⟩ : ∃ q, q = swapLs f t name ls ms := ⟨_, rfl⟩
  have HQ : Hid (q = swapLs f t name ls ms) := hq
  rw [← hq] at hcp hli HQS hq2 HOk HNo ⊢
  have HLQ : Hid (LinesAt wc.heap.size wc (some ⟨g, 0, none⟩) q) := hli
  have HEc : Hid (Env wc) := HE.out.later HB6.out
  clear hr hm hpl hli HR HP HFL HSL HXT hq
  go_wp2_with fail
  refine (flowCheck_any2 (some ⟨g, 0, none⟩) cp q wc hcp hq2 HLQ.out HQS.out HEc.out).mono ?_
  rintro e w7 ⟨fa2, fb2, rfl, hb7, hck⟩
  have HB7 : Hid (Below w.heap.size w w7) := HB6.out.trans (hb7.mono HB6.out.size)
  have HLQ7 : Hid (LinesAt w7.heap.size w7 (some ⟨g, 0, none⟩) q) := HLQ.out.later hb7
  clear hb7
  by_cases hz0 : fb2 = 0
  ·subst hz0
   have HQ0 : Hid (CheckC 0 q) := hck
   have hq60 := checkC_len hck
   clear hck
   go_wp2_with (go_at_call 56; refine (copied_any (some ⟨g, 0, none⟩) cp q _ (by omega) HQS.out HLQ7.out).mono ?_; rintro e w8 ⟨v8, ps8, rfl, hb8, hm8, ho8⟩; have HB8 : Hid (Below w.heap.size w w8) := HB7.out.trans (hb8.mono HB7.out.size); have HM8 : Hid (ps8.map (·.1) = q) := hm8; have HO8 : Hid (OwnLn w.heap.size w8 v8 ps8) := ho8.mono HB7.out.size; clear hb8 hm8 ho8)
   go_ret2
   exact ⟨v8, true, ps8, rfl, HB8.out, HO8.out, .inr ⟨rfl, HOk.out HQ0.out, by rw [HM8.out, HQ.out, Int.toNat_natCast, Int.toNat_natCast]⟩⟩
  ·have hbz : (fb2 != 0) = true := by simpa using hz0
   have HN : Hid (¬ SwapOk ls f t name ms) := HNo.out (check_no hck hz0)
   clear hck
   go_wp2
   go_ret2
   exact swap_no HB7.out HN.out
end
end Go.Proofs.YtlbjjbolbopfmaaGreatDoor
