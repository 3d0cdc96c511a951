import Derived.Test.YtlbjjbolbopfmaaGreatDoorJ37
import Derived.Test.YtlbjjbolbopfmaaGreatDoorJ40
import Derived.Test.YtlbjjbolbopfmaaGreatDoorJ41
import Derived.Test.YtlbjjbolbopfmaaGreatDoorJ42
import Derived.Test.YtlbjjbolbopfmaaGreatDoorJ22
import Derived.Test.YtlbjjbolbopfmaaGreatDoorJ34
import Derived.Test.YtlbjjbolbopfmaaGreatDoorJ26
import Derived.Test.YtlbjjbolbopfmaaGreatDoorJ00
import Derived.Test.YtlbjjbolbopfmaaGreatDoorJ20
import Derived.Test.YtlbjjbolbopfmaaGreatDoorJ21
import Derived.Deep.RegionHeld3
namespace Go.Proofs.YtlbjjbolbopfmaaGreatDoor
set_option maxHeartbeats 8000000
set_option maxRecDepth 1000000
set_option linter.unusedVariables false
section
open Go.RowKit
theorem z_kr (ao : Option Addr) (c : Nat) (ws : List ByteArray) (w : World) (hl : ws.length ≤ 4398046511000) (hc : ws.length ≤ c) (hz : ∀ s ∈ ws, s.size ≤ 4398046511104) (hi : StrsAt 0 w.heap.size w ao ws) :
  Calls Tryz.prog 171 #[.int .i64 (2 : Nat), .slice ao ws.length c] w (z_bg w (2 : Nat) ws) := by
 by_cases h3 : ws.length < 3
 ·exact z_fU ao c ws w h3
 match ws, h3, hl, hc, hz, hi with
 | [], h, _, _, _, _ => exact absurd (by simp) h
 | [_], h, _, _, _, _ => exact absurd (by simp) h
 | [_, _], h, _, _, _, _ => exact absurd (by simp) h
 | a :: b :: x :: r, _, hl, hc, hz, hi =>
  obtain ⟨g, off, rfl, _⟩ := hi.at 0 (by simp)
  have el : (a :: b :: x :: r).length = r.length + 3 := by simp
  rw [el] at hl hc ⊢
  have hl2 : r.length ≤ 4398046511000 := by omega
  cases ha : z_ac a with
  | false => exact z_h9 g off c a b x r hl2 w hc hz hi ha
  | true =>
   cases hh : hasB opsS b with
   | false => exact z_ie g off c a b x r hl2 w hc hz hi ha hh
   | true =>
    cases h2 : (b.toList == [105, 115]) with
    | true =>
     by_cases hr : r.length = 0
     ·have : r = [] := List.length_eq_zero_iff.1 hr
      subst this
      cases ho : allB z_an [x] with
      | false => exact z_hy g off c a b x w hc hz hi ha h2 ho
      | true => exact z_g3 g off c a b x w hc hz hi ha h2 ho
     ·cases q4 : ((r.length : Int) + 3 != 4) with
      | false => exact z_hD g off c a b x r hl2 w hc hz hi ha h2 hr q4
      | true => exact z_hx g off c a b x r hl2 w hc hz hi ha h2 hr q4
    | false =>
     by_cases hr : r.length = 1
     ·obtain ⟨y, rfl⟩ := List.length_eq_one_iff.1 hr
      cases ho : allB z_an [x, y] with
      | false => exact z_hu g off c a b x y w hc hz hi ha hh h2 ho
      | true => exact z_hf g off c a b x y w hc hz hi ha hh h2 ho
     ·exact z_iH g off c a b x r hl2 w hc hz hi ha hh h2 hr
theorem z_kI (k : Nat) (h1 : 1 ≤ k) (h15 : k ≤ 15) (ao : Option Addr) (c : Nat) (ws : List ByteArray) (w : World) (hl : ws.length ≤ 4398046511000) (hc : ws.length ≤ c) (hz : ∀ s ∈ ws, s.size ≤ 4398046511104) (hi : StrsAt 0 w.heap.size w ao ws) :
  Calls Tryz.prog 171 #[.int .i64 k, .slice ao ws.length c] w (z_bg w k ws) := by
 have hz2 : ∀ s ∈ ws, s.size ≤ 9223372036854775807 := fun s hs => by have := hz s hs; omega
 by_cases e1 : k = 1
 ·subst e1; exact z_jb ao c ws w hl hc hz hi
 by_cases e2 : k = 2
 ·subst e2; exact z_kr ao c ws w hl hc hz hi
 by_cases e3 : k = 3
 ·subst e3; exact z_lY ao c ws w hl hc hz hi
 by_cases e5 : k = 5
 ·subst e5; exact z_kq ao c ws w hl hc hz hi
 by_cases e6 : k = 6 ∨ k = 8
 ·exact z_jo k e6 ao c ws w hl hc hz hi
 by_cases e4 : k = 4 ∨ k = 12 ∨ k = 13
 ·by_cases hn : ws.length = 1
  ·exact z_dN k e4 ao c ws w hl hn hc hz2 hi
  ·exact z_du k e4 ao c ws w hl hn hc hi
 by_cases e14 : k = 14
 ·subst e14; exact z_hS ao c ws w hl hz hi
 by_cases e15 : k = 15
 ·subst e15; exact z_jG ao c ws w hl hc hz2 hi
 exact z_fZ k (by omega) ao c ws w hl
end
section
open Go.RowKit
def z_nS (w : World) (a : ByteArray) (zs : List ByteArray) (e : Ending) (w' : World) : Prop :=
 Below w.heap.size w w' ∧ ∃ (k : Int) (tt nm ud : ByteArray) (args : List ByteArray) (ao : Option Addr) (cap : Nat) (ok : Bool), e = .returned (.tuple #[.agg #[.int .i64 k, .string tt, .string nm, .slice ao args.length cap, .string ud], .bool ok]) ∧ args.length ≤ cap ∧ args.length ≤ zs.length ∧ StrsAt 0 w'.heap.size w' ao args ∧ (ok = true → k = z_aN a ∧ z_af k zs = some ⟨tt, nm, args, ud⟩) ∧ (ok = false → z_af (z_aN a) zs = none)
def RBox (w : World) (p : Nat) : Prop := w.heap[p]? = some (.cells #[.int .i64 0, .string ⟨#[]⟩, .string ⟨#[]⟩, .slice none 0 0, .string ⟨#[]⟩] 49 (0, 0))
theorem RBox.cells {w : World} {p : Nat} (h : RBox w p) : (w.cell? ⟨p, 0, none⟩ = some (.int .i64 0) ∧ w.cell? ⟨p, 1, none⟩ = some (.string ⟨#[]⟩) ∧ w.cell? ⟨p, 2, none⟩ = some (.string ⟨#[]⟩) ∧ w.cell? ⟨p, 3, none⟩ = some (.slice none 0 0) ∧ w.cell? ⟨p, 4, none⟩ = some (.string ⟨#[]⟩)) ∧ ∀ j, w.frozen? ⟨p, j, none⟩ = false := by
 refine ⟨⟨?_, ?_, ?_, ?_, ?_⟩, fun j => frozen_of_row _ _ j _ _ h⟩ <;> (rw [cell_of_row _ _ _ _ _ _ h]; rfl)
theorem RBox.below {w w' : World} {p : Nat} (h : RBox w p) (hb : Below w.heap.size w w') : RBox w' p := (hb.block p (Array.getElem?_eq_some_iff.1 h).1).trans h
theorem z_dW (w : World) (o : Obj) (B : TypeId) : ((w.alloc o).alloc (.cells #[] B)).ownsRow (w.heap.size + 1) B 1 (.slice (some ⟨w.heap.size + 1, 0, none⟩) 0 0) 0 [] := by
 have h := World.ownsRow_made (e := B) (size := 1) (w.alloc o) #[] 0 (Nat.le_refl _) (by decide) rfl
 rw [World.size_alloc] at h
 exact h
theorem z_gH {w w2 w3 : World} {k : Int} {tt nm ud : ByteArray} {bo : Option Addr} {n cap p : Nat} {args : List ByteArray} {v' : Value} (hb : Below p w w2) (hr : RBox w2 p) (hp : p < w2.heap.size)
  (ho : w3.ownsRow (w2.heap.size + 1) 9 1 v' args.length (strCells args))
  (hg : ((w2.alloc (.cells #[.int .i64 k, .string tt, .string nm, .slice bo n cap, .string ud] 49)).alloc (.cells #[] 9)).grownBy w3 (Value.slice (some ⟨w2.heap.size + 1, 0, none⟩) 0 0).ownBlock) :
  Hid (Below p w w3 ∧ RBox w3 p ∧ w3.ownsRow (w2.heap.size + 1) 9 1 v' args.length (strCells args) ∧ p < w2.heap.size ∧ w2.heap.size < w3.heap.size) ∧ (w3.cell? ⟨w2.heap.size, 0, none⟩ = some (.int .i64 k) ∧ w3.cell? ⟨w2.heap.size, 1, none⟩ = some (.string tt) ∧ w3.cell? ⟨w2.heap.size, 2, none⟩ = some (.string nm) ∧ w3.cell? ⟨w2.heap.size, 3, none⟩ = some (.slice bo n cap) ∧ w3.cell? ⟨w2.heap.size, 4, none⟩ = some (.string ud)) ∧ (∀ j, w3.frozen? ⟨w2.heap.size, j, none⟩ = false) := by
 have hbl : w3.heap[w2.heap.size]? = some (.cells #[.int .i64 k, .string tt, .string nm, .slice bo n cap, .string ud] 49 (0, 0)) :=
  (hg.block _ (by simp; omega) (by simp [Value.ownBlock])).trans ((Below.heap_alloc _ _ _ (by simp)).trans (heap_alloc_new w2 _))
 have hb2 : Below w2.heap.size w2 ((w2.alloc (.cells #[.int .i64 k, .string tt, .string nm, .slice bo n cap, .string ud] 49)).alloc (.cells #[] 9)) := z_ab _ _ _
 have hs := hg.size
 simp at hs
 refine ⟨⟨(hb.trans (hb2.mono (Nat.le_of_lt hp))).grown hg (by simp; omega) (fun j hj => by simp [Value.ownBlock] at hj; omega), ?_, ho, hp, by omega⟩, ⟨?_, ?_, ?_, ?_, ?_⟩, fun j => frozen_of_row _ _ j _ _ hbl⟩
 ·exact (hg.block p (by simp; omega) (by simp [Value.ownBlock]; omega)).trans ((hb2.block p hp).trans hr)
 all_goals (rw [cell_of_row _ _ _ _ _ _ hbl]; rfl)
theorem z_jX {w w2 w3 : World} {a : ByteArray} {zs args : List ByteArray} {k : Int} {tt nm ud : ByteArray} {ao : Option Addr} {cap : Nat} {ok : Bool}
  (hx : Below w.heap.size w w3 ∧ RBox w3 w.heap.size ∧ w3.ownsRow (w2.heap.size + 1) 9 1 (.slice ao args.length cap) args.length (strCells args) ∧ w.heap.size < w2.heap.size ∧ w2.heap.size < w3.heap.size)
  (hle : args.length ≤ zs.length) (hk : z_aN a = k) (h1 : ok = true → z_af k zs = some ⟨tt, nm, args, ud⟩) (h2 : ok = false → z_af k zs = none) (v0 v1 v2 v3 v4 : Value) :
  z_nS w a zs (.returned (.tuple #[.agg #[.int .i64 k, .string tt, .string nm, .slice ao args.length cap, .string ud], .bool ok])) ((((((w3.setCell ⟨w2.heap.size, 3, none⟩ (.slice ao args.length cap)).setCell ⟨w.heap.size, 0, none⟩ v0).setCell ⟨w.heap.size, 1, none⟩ v1).setCell ⟨w.heap.size, 2, none⟩ v2).setCell ⟨w.heap.size, 3, none⟩ v3).setCell ⟨w.heap.size, 4, none⟩ v4) := by
 obtain ⟨hb, hr, ho, hp, hs⟩ := hx
 have hne : ∀ j, j ≤ w2.heap.size → (Value.slice ao args.length cap).ownBlock ≠ some j := fun j hj e => by have := (ho.lt j e).1; omega
 have hb3 : Below w.heap.size w (w3.setCell ⟨w2.heap.size, 3, none⟩ (.slice ao args.length cap)) := hb.setCell (p := ⟨w2.heap.size, 3, none⟩) (Nat.le_of_lt hp) _
 have ho5 := z_ad (j := 4) (z_ad (j := 3) (z_ad (j := 2) (z_ad (j := 1) (z_ad (j := 0) (z_ad (j := 3) ho (hne _ (Nat.le_refl _)) (.slice ao args.length cap)) (hne _ (Nat.le_of_lt hp)) v0) (hne _ (Nat.le_of_lt hp)) v1) (hne _ (Nat.le_of_lt hp)) v2) (hne _ (Nat.le_of_lt hp)) v3) (hne _ (Nat.le_of_lt hp)) v4
 obtain ⟨ao', cap', e, hc', hs'⟩ := StrsAt.of_owns ho5
 simp only [Value.slice.injEq] at e
 obtain ⟨rfl, _, rfl⟩ := e
 exact ⟨z_az hb3 _ _ _ _ _, k, tt, nm, ud, args, _, _, ok, rfl, hc', hle, hs'.mono (Nat.zero_le _) (Nat.le_refl _), fun h => ⟨hk.symm, h1 h⟩, fun h => by rw [hk]; exact h2 h⟩
theorem z_kE (g off c : Nat) (a : ByteArray) (zs : List ByteArray) (w : World) (hl : zs.length ≤ 4398046510999) (hc : zs.length + 1 ≤ c) (hz : ∀ s ∈ a :: zs, s.size ≤ 4398046511104) (hi : StrsAt 0 w.heap.size w (some ⟨g, off, none⟩) (a :: zs)) :
  Calls Tryz.prog 138 #[.slice (some ⟨g, off, none⟩) (zs.length + 1) c] w (z_nS w a zs) := by
 obtain ⟨i0, hi0, hz0, hz1, hz2⟩ := info_parts Tryz.infoStr
 have HZ : Hid (∀ s ∈ zs, s.size ≤ 4398046511104) := fun s hs => hz s (by simp [hs])
 have HD : Hid (StrsAt 0 w.heap.size w (some ⟨g, off + 1, none⟩) zs) := hi.drop 1
 obtain ⟨_, _, e0, hB, k0⟩ := hi.at 0 (by simp)
 cases e0
 have c0 : w.cell? ⟨g, off, none⟩ = some (.string a) := k0
 have hgw : g < w.heap.size := hB.2
 clear hi hz k0 hB
 go_enter Tryz.func138, Tryz.ntmps138
 go_wp2_with fail
 refine (z_b1 _).mono ?_
 rintro e W1 ⟨rfl, hb1, hs1⟩
 have hsz1 : w.heap.size + 1 < W1.heap.size := by
  obtain ⟨_, _, e, hb, _⟩ := hs1.at 1 (by decide)
  have h1 := hb.1
  have h2 := hb.2
  simp at h1
  omega
 have HB1 : Hid (Below w.heap.size w W1) := ((Below.refl _ _).alloc (Nat.le_refl _) _).trans (hb1.mono (by simp))
 have HR1 : Hid (RBox W1 w.heap.size) := (hb1.block w.heap.size (by simp)).trans (heap_alloc_new w _)
 have HK1 : Hid (∀ k : Nat, 1 ≤ k → k < 16 → W1.cell? ⟨w.heap.size + 1, k, none⟩ = some (.string (z_a3 k))) := by
  intro k h1 h2
  obtain ⟨_, _, e, _, hck⟩ := hs1.at k h2
  have hk := z_fg k h1 h2
  simp only [World.size_alloc, Option.some.injEq, Addr.mk.injEq] at e
  obtain ⟨rfl, rfl, _⟩ := e
  rw [Nat.zero_add] at hck
  rw [hck]
  have : kindsS[k]'h2 = z_a3 k := by rw [← hk]; simp [List.getD, show k < kindsS.length from h2] <;> rfl
  rw [this]
 clear hb1 hs1
 simp only [World.size_alloc]
 go_wp2_with fail
 go_loopw [5] (fun i wr => ∃ k : Nat, 1 ≤ k ∧ k ≤ 16 ∧ i = .int .i64 k ∧ Hid (∀ j : Nat, 1 ≤ j → j < k → z_a3 j ≠ a) ∧ Hid (Below W1.heap.size W1 wr)) (fun i _ => 16 - (intOf i).toNat)
 case atStart => exact ⟨1, by omega, by omega, rfl, fun j h1 h2 => by omega, Below.refl _ _⟩
 case round =>
  obtain ⟨k, hk1, hk, rfl, HO, HB⟩ := hrel
  have HBW : Hid (Below w.heap.size w wr) := HB1.out.trans (HB.out.mono HB1.out.size)
  have hszr := HB.out.size
  by_cases hlt : k < 16
  ·have ck : wr.cell? ⟨w.heap.size + 1, k, none⟩ = some (.string (z_a3 k)) := (HB.out.cell (p := ⟨w.heap.size + 1, k, none⟩) hsz1).trans (HK1.out k hk1 hlt)
   have ca : wr.cell? ⟨g, off, none⟩ = some (.string a) := (HBW.out.cell (p := ⟨g, off, none⟩) hgw).trans c0
   have p1 : (k : Int) < 16 := by omega
   have p2 : (0 : Int) ≤ (k : Int) := by omega
   have p3 : (0 : Int) < zs.length + 1 := by omega
   have hgr : g < wr.heap.size := by omega
   have h1r : w.heap.size + 1 < wr.heap.size := by omega
   obtain ⟨x, hx⟩ : ∃ x, x = z_a3 k := ⟨_, rfl⟩
   rw [← hx] at ck
   cases he : (x.toList == a.toList) with
   | false =>
    have HN : Hid (∀ j : Nat, 1 ≤ j → j < k + 1 → z_a3 j ≠ a) := by
     intro j h1 h2
     by_cases e : j = k
     ·subst e; rw [hx, z_aI] at he; simpa using he
     ·exact HO.out j h1 (by omega)
    clear hx c0
    go_wp2_with fail
    go_region
    all_goals
     go_wp2_with fail
     go_roundw
     case rel => exact ⟨k + 1, by omega, by omega, by go_num, HN, HB.out.trans (Below.refl _ _).drew⟩
     case measure => simp [intOf]; omega
   | true =>
    have hka : z_aN a = k := z_iZ hk1 (by omega) (by rw [hx, z_aI] at he; simpa using he) HO.out
    have HKA : Hid (z_aN a = (k : Int)) := hka
    have HR : Hid (RBox wr w.heap.size) := HR1.out.below HB.out
    clear hka hx c0
    obtain ⟨ao1, c1, hsl, hdr, hcl⟩ : ∃ ao1 c1, (if c = 1 then (some ⟨g, off, none⟩, 0) else (some ⟨g, off + 1, none⟩, c - 1)) = ((ao1 : Option Addr), (c1 : Nat)) ∧ StrsAt 0 w.heap.size w ao1 zs ∧ zs.length ≤ c1 := by
     by_cases h1 : c = 1
     ·have : zs = [] := List.length_eq_zero_iff.1 (by omega)
      subst this
      exact ⟨_, _, by rw [if_pos h1], StrsAt.nil _ _ _ _, by simp⟩
     ·exact ⟨_, _, by rw [if_neg h1], HD.out, by omega⟩
    have HDR : Hid (StrsAt 0 w.heap.size w ao1 zs) := hdr
    have HCL : Hid (zs.length ≤ c1) := hcl
    clear hdr hcl
    have key : ∀ (W : World), Below wr.heap.size wr W → Calls Tryz.prog 171 #[.int .i64 k, .slice ao1 zs.length c1] W fun e w2 => ∃ (tt nm ud : ByteArray) (args : List ByteArray) (bo : Option Addr) (cap : Nat) (ok : Bool), e = .returned (.tuple #[.agg #[.int .i64 k, .string tt, .string nm, .slice bo args.length cap, .string ud], .bool ok]) ∧ args.length ≤ 4398046511000 ∧ Hid (args.length ≤ zs.length) ∧ Hid (StrsAt 0 w2.heap.size w2 bo args) ∧ Hid (Below w.heap.size w w2) ∧ Hid (RBox w2 w.heap.size) ∧ w.heap.size < w2.heap.size ∧ Hid (ok = true → z_af k zs = some ⟨tt, nm, args, ud⟩) ∧ Hid (ok = false → z_af k zs = none) := by
     intro W hW
     have hbW : Below w.heap.size w W := HBW.out.trans (hW.mono (by omega))
     refine (z_kI k hk1 (by omega) ao1 c1 zs W (by omega) HCL.out HZ.out ((HDR.out.below hbW).mono (Nat.le_refl _) hbW.size)).mono ?_
     rintro e w2 ⟨hb, tt, nm, ud, args, bo, cap, ok, rfl, hcap, hle, hs, h1, h2⟩
     have hws := hW.size
     have hws2 := hb.size
     exact ⟨tt, nm, ud, args, bo, cap, ok, rfl, by omega, hle, hs, hbW.trans (hb.mono hbW.size), (HR.out.below hW).below hb, by omega, h1, h2⟩
    have HKey : Hid (∀ (W : World), Below wr.heap.size wr W → Calls Tryz.prog 171 #[.int .i64 k, .slice ao1 zs.length c1] W fun e w2 => ∃ (tt nm ud : ByteArray) (args : List ByteArray) (bo : Option Addr) (cap : Nat) (ok : Bool), e = .returned (.tuple #[.agg #[.int .i64 k, .string tt, .string nm, .slice bo args.length cap, .string ud], .bool ok]) ∧ args.length ≤ 4398046511000 ∧ Hid (args.length ≤ zs.length) ∧ Hid (StrsAt 0 w2.heap.size w2 bo args) ∧ Hid (Below w.heap.size w w2) ∧ Hid (RBox w2 w.heap.size) ∧ w.heap.size < w2.heap.size ∧ Hid (ok = true → z_af k zs = some ⟨tt, nm, args, ud⟩) ∧ Hid (ok = false → z_af k zs = none)) := key
    clear key
    by_cases hc1 : c = 1
    all_goals
     first | (rw [if_pos hc1] at hsl) | (rw [if_neg hc1] at hsl)
     simp only [Prod.mk.injEq] at hsl
     obtain ⟨rfl, rfl⟩ := hsl
     have HC1 : Hid (c = 1 ∨ ¬ c = 1) := Decidable.em _
     go_wp2_with fail
     go_region
     all_goals
      go_wp2_with fail
      refine (HKey.out _ (Below.refl _ _).drew).mono ?_
      rintro e w2 ⟨tt, nm, ud, args, bo, cap, ok, rfl, hal, HLE, HS2, HB2, HR2, hw2, H1, H2⟩
      have hpn : ¬ w.heap.size = w2.heap.size := by omega
      have hpn2 : ¬ w2.heap.size = w.heap.size := by omega
      by_cases h0 : 0 < args.length
      ·obtain ⟨b, o, rfl, _, _⟩ := HS2.out 0 h0
       have hcells : ∀ j u, (strCells args)[j]? = some u → (((w2.alloc (.cells #[.int .i64 k, .string tt, .string nm, .slice (some ⟨b, o, none⟩) args.length cap, .string ud] 49)).alloc (.cells #[] 9))).cell? ((⟨b, o, none⟩ : Addr).add j) = some u := z_b0 (HS2.out.later (z_ab _ _ _))
       have HC := (show Hid _ from hcells)
       have HM : Hid ((((w2.alloc (.cells #[.int .i64 k, .string tt, .string nm, .slice (some ⟨b, o, none⟩) args.length cap, .string ud] 49)).alloc (.cells #[] 9))).ownsRow (w2.heap.size + 1) 9 1 (.slice (some ⟨w2.heap.size + 1, 0, none⟩) 0 0) 0 []) := z_dW _ _ _
       clear hcells
       go_wp2_with (at_builtin; go_loud (refine wpList_append_own _ rfl _ _ 45 rfl (w2.heap.size + 1) 9 i0 (.string ByteArray.empty) 1 16 Tryz.underlying45 hi0 hz0 hz1 hz2 rfl (by decide) _ _ _ rfl HM.out ⟨b, o, none⟩ args.length _ (strCells args) rfl (by simp [strCells]) HC.out (by intro u hu; simp [strCells] at hu; obtain ⟨a, _, rfl⟩ := hu; rfl) (by unfold maxLen; omega) (by omega) (by simp) ?_; intro v' w3 hown hgrow _; rw [Nat.zero_add, List.nil_append] at hown; obtain ⟨vo, vc, rfl, hvc⟩ := z_aq hown; obtain ⟨HX, ⟨y0, y1, y2, y3, y4⟩, fy⟩ := z_gH HB2.out HR2.out hw2 hown hgrow; obtain ⟨⟨z0, z1, z2, z3, z4⟩, fz⟩ := HX.out.2.1.cells; clear hown hgrow))
       refine bodyPost_ret (v := .tuple #[.agg #[.int .i64 k, .string tt, .string nm, .slice vo args.length vc, .string ud], .bool ok]) (by simp [results, Tryz.results138, go_sem, z0, z1, z2, z3, z4]) rfl ?_
       exact z_jX HX.out HLE.out HKA.out H1.out H2.out _ _ _ _ _
      ·have e : args = [] := List.length_eq_zero_iff.1 (by omega)
       subst e
       cases bo with
       | none =>
        obtain ⟨HX, ⟨y0, y1, y2, y3, y4⟩, fy⟩ := z_gH (k := k) (tt := tt) (nm := nm) (ud := ud) (bo := none) (n := 0) (cap := cap) (args := []) HB2.out HR2.out hw2 (z_dW _ _ _) z_bW
        obtain ⟨⟨z0, z1, z2, z3, z4⟩, fz⟩ := HR2.out.cells
        clear y0 y1 y2 y3 y4 fy
        go_wp2_with fail
        refine bodyPost_ret (v := .tuple #[.agg #[.int .i64 k, .string tt, .string nm, .slice (some ⟨w2.heap.size + 1, 0, none⟩) 0 0, .string ud], .bool ok]) (by simp [results, Tryz.results138, go_sem, z0, z1, z2, z3, z4, hw2]) rfl ?_
        exact ⟨((z_az HB2.out _ _ _ _ _).alloc (by simp [World.setCell]; omega) _).alloc (by simp [World.setCell]; omega) _, k, tt, nm, ud, [], _, 0, ok, rfl, Nat.le_refl _, Nat.zero_le _, StrsAt.nil _ _ _ _, fun h => ⟨HKA.out.symm, H1.out h⟩, fun h => by rw [HKA.out]; exact H2.out h⟩
       | some ad =>
        have HM : Hid ((((w2.alloc (.cells #[.int .i64 k, .string tt, .string nm, .slice (some ad) 0 cap, .string ud] 49)).alloc (.cells #[] 9))).ownsRow (w2.heap.size + 1) 9 1 (.slice (some ⟨w2.heap.size + 1, 0, none⟩) 0 0) 0 []) := z_dW _ _ _
        go_wp2_with (at_builtin; go_loud (refine wpList_append_own _ rfl _ _ 45 rfl (w2.heap.size + 1) 9 i0 (.string ByteArray.empty) 1 16 Tryz.underlying45 hi0 hz0 hz1 hz2 rfl (by decide) _ _ _ rfl HM.out ad 0 _ [] rfl rfl (by intro j u hj; simp at hj) (by intro u hu; simp at hu) (by unfold maxLen; omega) (by omega) (by simp) ?_; intro v' w3 hown hgrow _; obtain ⟨vo, vc, rfl, hvc⟩ := z_aq hown; obtain ⟨HX, ⟨y0, y1, y2, y3, y4⟩, fy⟩ := z_gH (args := []) HB2.out HR2.out hw2 hown hgrow; obtain ⟨⟨z0, z1, z2, z3, z4⟩, fz⟩ := HX.out.2.1.cells; clear hown hgrow))
        refine bodyPost_ret (v := .tuple #[.agg #[.int .i64 k, .string tt, .string nm, .slice vo 0 vc, .string ud], .bool ok]) (by simp [results, Tryz.results138, go_sem, z0, z1, z2, z3, z4]) rfl ?_
        exact z_jX (args := []) HX.out HLE.out HKA.out H1.out H2.out _ _ _ _ _
  ·have HN : Hid (z_aN a = 0) := z_gn (fun j h1 h2 => HO.out j h1 (by omega))
   have hge : ¬ (k : Int) < 16 := by omega
   obtain ⟨⟨x0, x1, x2, x3, x4⟩, fx⟩ := (HR1.out.below HB.out).cells
   go_wp2
   refine bodyPost_ret (v := .tuple #[.agg #[.int .i64 0, .string ⟨#[]⟩, .string ⟨#[]⟩, .slice none 0 0, .string ⟨#[]⟩], .bool false]) (by simp [results, Tryz.results138, go_sem, x0, x1, x2, x3, x4]) rfl ?_
   refine ⟨z_az HBW.out _ _ _ _ _, 0, eS, eS, eS, [], none, 0, false, rfl, Nat.le_refl _, Nat.zero_le _, StrsAt.nil _ _ _ _, fun h => Bool.noConfusion h, fun _ => by rw [HN.out]; rfl⟩
end
section
open Go.RowKit
set_option linter.unusedSimpArgs false
theorem z_kJ {s : ByteArray} {k : Int} (h1 : 1 ≤ k) (h : z_aN s = k) : z_a3 k = s := by
 rw [z_aN] at h
 split at h
 ·rename_i i hf
  have hp := List.find?_some hf
  rw [← h]; simpa using hp
 ·omega
theorem z_jD (k k' : Int) (d d' : Bd) : z_a0 k k' d d' = z_a0 k' k d' d := by
 rw [Bool.eq_iff_iff]
 simp only [z_a0, Bool.and_eq_true, beq_iff_eq, decide_eq_true_eq, z_aI]
 constructor
 ·rintro ⟨⟨⟨⟨a, b⟩, c⟩, e⟩, f⟩; exact ⟨⟨⟨⟨a.symm, b.symm⟩, c.symm⟩, e.symm⟩, f.symm⟩
 ·rintro ⟨⟨⟨⟨a, b⟩, c⟩, e⟩, f⟩; exact ⟨⟨⟨⟨a.symm, b.symm⟩, c.symm⟩, e.symm⟩, f.symm⟩
theorem z_je {k k' : Int} {d d' : Bd} (h : k ≠ k') : z_a0 k k' d d' = false := by
 unfold z_a0; rw [beq_eq_false_iff_ne.2 h]; simp
theorem z_jE {k : Int} {d : Bd} (h1 : 1 ≤ k) (h2 : k ≤ 15) (hb : branchK k = true → d.args.length = 2) : z_br k d = match z_a7 k d with
  | [] => false
  | a :: r => match z_af (z_aN a) r with
   | none => false
   | some d' => z_a0 k (z_aN a) d d' := by
 unfold z_br
 rw [decide_eq_true (⟨h1, h2⟩ : 1 ≤ k ∧ k ≤ 15)]
 cases hk : branchK k with
 | false => rfl
 | true => rw [decide_eq_true (hb hk)]; rfl
theorem z_jr {t : ByteArray} (h : t.size ≤ 4398046510000) : (wordsW t).length ≤ 4398046510000 ∧ ∀ s ∈ wordsW t, s.size ≤ 4398046511104 :=
 ⟨Nat.le_trans (z_f3 t) h, fun s hs => by have := z_fG t s hs; omega⟩
def Box5 (w : World) (p : Nat) (k : Int) (d : Bd) (ao : Option Addr) (c : Nat) : Prop := w.heap[p]? = some (.cells #[.int .i64 k, .string d.to, .string d.name, .slice ao d.args.length c, .string d.undo] 49 (0, 0))
section
variable {w w' : World} {p : Nat} {k : Int} {d : Bd} {ao : Option Addr} {c : Nat}
theorem Box5.cells (h : Box5 w p k d ao c) : w.cell? ⟨p, 0, none⟩ = some (.int .i64 k) ∧ w.cell? ⟨p, 1, none⟩ = some (.string d.to) ∧ w.cell? ⟨p, 2, none⟩ = some (.string d.name) ∧ w.cell? ⟨p, 3, none⟩ = some (.slice ao d.args.length c) ∧ w.cell? ⟨p, 4, none⟩ = some (.string d.undo) := by
 refine ⟨?_, ?_, ?_, ?_, ?_⟩ <;> (rw [cell_of_row _ _ _ _ _ _ h]; rfl)
theorem Box5.lt (h : Box5 w p k d ao c) : p < w.heap.size := (Array.getElem?_eq_some_iff.1 h).1
theorem Box5.below (h : Box5 w p k d ao c) (hb : Below w.heap.size w w') : Box5 w' p k d ao c := (hb.block p h.lt).trans h
end
theorem z_g {w w3 w4 : World} {k : Nat} {d : Bd} {ao go : Option Addr} {c : Nat} {ws : List ByteArray} (h1 : 1 ≤ k) (h15 : k ≤ 15) (hb : Below w.heap.size w w3) (hx : Box5 w3 w.heap.size k d ao c) (hi : StrsAt 0 w3.heap.size w3 ao d.args) (hz : StrsAt 0 w3.heap.size w3 go ws)
  (hb4 : Below w3.drew.heap.size w3.drew w4) (hs4 : StrsAt w3.drew.heap.size w4.heap.size w4 (some ⟨w3.drew.heap.size, 0, none⟩) kindsS) :
  Hid (Below w.heap.size w w4) ∧ Hid (Box5 w4 w.heap.size k d ao c) ∧ Hid (StrsAt 0 w4.heap.size w4 ao d.args) ∧ Hid (StrsAt 0 w4.heap.size w4 go ws) ∧ w4.cell? ⟨w3.heap.size, k, none⟩ = some (.string (z_a3 k)) ∧ (∀ g off s, g < w3.heap.size → w3.cell? ⟨g, off, none⟩ = some s → w4.cell? ⟨g, off, none⟩ = some s) ∧ w4.cell? ⟨w.heap.size, 0, none⟩ = some (.int .i64 k) := by
 have hb' : Below w3.heap.size w3 w4 := (Below.refl _ _).drew.trans hb4
 have hx4 := hx.below hb'
 refine ⟨hb.trans (hb'.mono hb.size), hx4, hi.later hb', hz.later hb', ?_, fun g off s hg hc => (hb'.cell (p := ⟨g, off, none⟩) hg).trans hc, hx4.cells.1⟩
 have h2 : k < kindsS.length := by show k < 16; omega
 obtain ⟨_, _, e, _, hck⟩ := hs4.at k h2
 have hk := z_fg k h1 (by omega)
 simp only [Option.some.injEq, Addr.mk.injEq] at e
 obtain ⟨rfl, rfl, _⟩ := e
 rw [Nat.zero_add] at hck
 have e2 : kindsS[k] = z_a3 k := by rw [← hk]; simp [List.getD, h2] <;> rfl
 rw [e2] at hck
 exact hck
theorem z_i (k : Int) (d : Bd) (ao : Option Addr) (c : Nat) (w : World) (hl : d.args.length ≤ 1048576) (h : ¬ (1 ≤ k ∧ k ≤ 15) ∨ (branchK k = true ∧ d.args.length ≠ 2)) :
  Calls Tryz.prog 100 #[.agg #[.int .i64 k, .string d.to, .string d.name, .slice ao d.args.length c, .string d.undo]] w fun e w' => e = .returned (.bool (z_br k d)) ∧ Below w.heap.size w w' := by
 have hbw : Below w.heap.size w (w.alloc (.cells #[.int .i64 k, .string d.to, .string d.name, .slice ao d.args.length c, .string d.undo] 49)) := (Below.refl _ _).alloc (Nat.le_refl _) _
 have HB : Hid (Below w.heap.size w (w.alloc (.cells #[.int .i64 k, .string d.to, .string d.name, .slice ao d.args.length c, .string d.undo] 49))) := hbw
 clear hbw
 by_cases hk : 1 ≤ k ∧ k ≤ 15
 ·have h2 := h.resolve_left (fun hn => hn hk)
  have HN : Hid (z_br k d = false) := z_es k d h2.1 h2.2
  have hin : (decide (1 ≤ k) && decide (k ≤ 15)) = true := by rw [decide_eq_true hk.1, decide_eq_true hk.2]; rfl
  have hq2 : ((d.args.length : Int) == 2) = false := by have := h2.2; simp; omega
  have hq3 : ((d.args.length : Int) != 2) = true := by rw [bne, hq2]; rfl
  have hb := h2.1
  unfold branchK at hb
  rw [Bool.or_eq_true] at hb
  clear h h2 hk
  rcases hb with hb | hb
  ·have e := eq_of_beq hb
   subst e
   clear hb
   go_enter Tryz.func100, Tryz.ntmps100
   go_wp2_with (go_at_call 47; refine (z_bs _ _ _ _).mono ?_; rintro e wx ⟨rfl, rfl⟩)
   go_ret
   exact ⟨by rw [HN.out]; rfl, HB.out⟩
  ·have e := eq_of_beq hb
   subst e
   clear hb
   go_enter Tryz.func100, Tryz.ntmps100
   go_wp2_with (go_at_call 47; refine (z_bs _ _ _ _).mono ?_; rintro e wx ⟨rfl, rfl⟩)
   go_ret
   exact ⟨by rw [HN.out]; rfl, HB.out⟩
 ·have HN : Hid (z_br k d = false) := z_dJ k d hk
  have hin : (decide (1 ≤ k) && decide (k ≤ 15)) = false := by
   rw [Bool.and_eq_false_iff, decide_eq_false_iff_not, decide_eq_false_iff_not]
   by_cases h1 : 1 ≤ k
   ·exact .inr (fun h2 => hk ⟨h1, h2⟩)
   ·exact .inl h1
  clear h hk
  go_enter Tryz.func100, Tryz.ntmps100
  go_wp2_with (go_at_call 47; refine (z_bs _ _ _ _).mono ?_; rintro e wx ⟨rfl, rfl⟩; rw [hin])
  go_ret
  exact ⟨by rw [HN.out]; rfl, HB.out⟩
theorem z_jI (k : Nat) (d : Bd) (ao : Option Addr) (c : Nat) (w : World) (h1 : 1 ≤ k) (h15 : k ≤ 15) (hbr : branchK (k : Int) = true → d.args.length = 2) (hc : d.args.length ≤ c) (hl : d.args.length ≤ 1048576)
  (hz1 : d.to.size ≤ 1048576) (hz2 : d.name.size ≤ 1048576) (hz3 : d.undo.size ≤ 1048576) (hz4 : ∀ s ∈ d.args, s.size ≤ 1048576) (hi : StrsAt 0 w.heap.size w ao d.args) :
  Calls Tryz.prog 100 #[.agg #[.int .i64 k, .string d.to, .string d.name, .slice ao d.args.length c, .string d.undo]] w fun e w' => e = .returned (.bool (z_br k d)) ∧ Below w.heap.size w w' := by
 have HW := z_jE (k := (k : Int)) (d := d) (by omega) (by omega) hbr
 have HBk : Hid (z_br (k : Int) d = match z_a7 (k : Int) d with
  | [] => false
  | a :: r => match z_af (z_aN a) r with
   | none => false
   | some d' => z_a0 (k : Int) (z_aN a) d d') := HW
 clear HW
 have hin : (decide ((1 : Int) ≤ k) && decide ((k : Int) ≤ 15)) = true := by rw [decide_eq_true (by omega), decide_eq_true (by omega)]; rfl
 obtain ⟨W1, hW1⟩ : ∃ W1, W1 = w.alloc (.cells #[.int .i64 k, .string d.to, .string d.name, .slice ao d.args.length c, .string d.undo] 49) := ⟨_, rfl⟩
 have HB1 : Hid (Below w.heap.size w W1) := by rw [hW1]; exact (Below.refl _ _).alloc (Nat.le_refl _) _
 have HX1 : Hid (Box5 W1 w.heap.size k d ao c) := by rw [hW1]; exact heap_alloc_new w _
 have HT : Hid (Calls Tryz.prog 136 #[.agg #[.int .i64 k, .string d.to, .string d.name, .slice ao d.args.length c, .string d.undo]] W1 fun e w' => ∃ t : ByteArray, e = .returned (.string t) ∧ Below W1.heap.size W1 w' ∧ wordsW t = z_a6 (outW (k : Int) d) ∧ t.size ≤ 4398046510000) :=
  z_kB k d ao c W1 h1 (by omega) hbr hl hc hz1 hz2 hz3 hz4 (hi.later HB1.out)
 have HI1 : Hid (StrsAt 0 W1.heap.size W1 ao d.args) := hi.later HB1.out
 have HW1 : Hid (w.alloc (.cells #[.int .i64 k, .string d.to, .string d.name, .slice ao d.args.length c, .string d.undo] 49) = W1) := hW1.symm
 clear hW1 hi hz1 hz2 hz3 hz4
 have hq : branchK (k : Int) = true → ((d.args.length : Int) != 2) = false := fun h => by have := hbr h; rw [this]; rfl
 clear hbr
 have H3 : Hid ((((k : Int) == 6) = true ∧ ((d.args.length : Int) != 2) = false) ∨ (((k : Int) == 6) = false ∧ ((k : Int) == 8) = true ∧ ((d.args.length : Int) != 2) = false) ∨ (((k : Int) == 6) = false ∧ ((k : Int) == 8) = false)) := by
  unfold branchK at hq
  cases h6 : ((k : Int) == 6) with
  | true => exact .inl ⟨rfl, hq (by rw [h6]; rfl)⟩
  | false =>
   cases h8 : ((k : Int) == 8) with
   | true => exact .inr (.inl ⟨rfl, rfl, hq (by rw [h6, h8]; rfl)⟩)
   | false => exact .inr (.inr ⟨rfl, rfl⟩)
 clear hq
 rcases H3.out with ⟨hk6, hq2⟩ | ⟨hk6, hk8, hq2⟩ | ⟨hk6, hk8⟩
 all_goals
  go_enter Tryz.func100, Tryz.ntmps100
  go_wp2_with (go_at_call 47; refine (z_bs _ _ _ _).mono ?_; rintro e wx ⟨rfl, rfl⟩; rw [hin])
  rw [HW1.out]
  refine HT.out.mono ?_
  rintro e w2 ⟨t, rfl, hb2, ht, hts⟩
  obtain ⟨hwl, hwz⟩ := z_jr hts
  rw [ht, z_f9] at hwl hwz
  have HWl : Hid ((z_a7 (k : Int) d).length ≤ 4398046510000) := hwl
  have HWz : Hid (∀ s ∈ z_a7 (k : Int) d, s.size ≤ 4398046511104) := hwz
  have HTw : Hid (wordsW t = z_a7 (k : Int) d) := by show _ = _; rw [ht, z_f9]
  have HX2 : Hid (Box5 w2 w.heap.size k d ao c) := HX1.out.below hb2
  have HB2 : Hid (Below w.heap.size w w2) := HB1.out.trans (hb2.mono HB1.out.size)
  have HI2 : Hid (StrsAt 0 w2.heap.size w2 ao d.args) := HI1.out.later hb2
  clear hb2 ht hwl hwz
  go_wp2_with fail
  refine (z_jf t w2 hts).mono ?_
  rintro e w3 ⟨v, rfl, hb3, go, gc, rfl, hgc, hs3⟩
  rw [HTw.out] at hgc hs3 ⊢
  have HX3 : Hid (Box5 w3 w.heap.size k d ao c) := HX2.out.below hb3
  have HB3 : Hid (Below w.heap.size w w3) := HB2.out.trans (hb3.mono HB2.out.size)
  have HI3 : Hid (StrsAt 0 w3.heap.size w3 ao d.args) := HI2.out.later hb3
  have HZ3 : Hid (StrsAt 0 w3.heap.size w3 go (z_a7 (k : Int) d)) := hs3.mono (Nat.zero_le _) (Nat.le_refl _)
  have hplt : w.heap.size < w3.heap.size := HX3.out.lt
  obtain ⟨y0, y1, y2, y3, y4⟩ := HX3.out.cells
  clear hb3 hs3 HX2 HB2 HI2 HTw hts
  have HBk2 := HBk
  obtain ⟨ws, hws⟩ : ∃ ws, ws = z_a7 (k : Int) d := ⟨_, rfl⟩
  rw [← hws] at HZ3 HWl HWz HBk2 hgc ⊢
  clear hws
  match ws, HZ3, HWl, HWz, HBk2, hgc with
  | [], _, _, _, HBk2, _ =>
   have HN : Hid (z_br (k : Int) d = false) := HBk2.out
   go_wp2_with fail
   refine wp_region_held_drew (S := fun _ => True) (by kernel_rfl) trivial (fun hHeld => ?_)
   refine tkL 0 ?_
   try simp only [Act.put, nA, nB, nC, nD, nE, nF]
   refine tkL 1 ?_
   try simp only [Act.put, nA, nB, nC, nD, nE, nF]
   refine tkL 2 ?_
   try simp only [Act.put, nA, nB, nC, nD, nE, nF]
   refine tkL 3 ?_
   try simp only [Act.put, nA, nB, nC, nD, nE, nF]
   refine tkR 4 ?_
   try simp only [Act.put, nA, nB, nC, nD, nE, nF]
   refine tkR 5 ?_
   try simp only [Act.put, nA, nB, nC, nD, nE, nF]
   refine tkR 6 ?_
   try simp only [Act.put, nA, nB, nC, nD, nE, nF]
   refine tkR 7 ?_
   try simp only [Act.put, nA, nB, nC, nD, nE, nF]
   refine tkR 8 ?_
   try simp only [Act.put, nA, nB, nC, nD, nE, nF]
   refine tkR 9 ?_
   try simp only [Act.put, nA, nB, nC, nD, nE, nF]
   refine tkR 10 ?_
   try simp only [Act.put, nA, nB, nC, nD, nE, nF]
   refine tkR 11 ?_
   try simp only [Act.put, nA, nB, nC, nD, nE, nF]
   refine tkR 12 ?_
   try simp only [Act.put, nA, nB, nC, nD, nE, nF]
   refine tkL 13 ?_
   try simp only [Act.put, nA, nB, nC, nD, nE, nF]
   refine wpAnyH_done (by kernel_rfl) ?_ _
   all_goals
    go_wp2_with fail
    go_ret
    exact ⟨by rw [HN.out]; rfl, HB3.out.trans (Below.refl _ _).drew⟩
  | a :: r, HZ3, HWl, HWz, HBk2, hgc =>
   obtain ⟨g, off, rfl, hgB, b0⟩ := HZ3.out.at 0 (by simp)
   have b0 : w3.cell? ⟨g, off, none⟩ = some (.string a) := b0
   have hglt : g < w3.heap.size := hgB.2
   have hrl : r.length + 1 ≤ 4398046510000 := by have := HWl.out; simpa using this
   have p0 : (0 : Int) < r.length + 1 := by omega
   have pk : (k : Int) < 16 := by omega
   have pk0 : (0 : Int) ≤ (k : Int) := by omega
   have el : (a :: r).length = r.length + 1 := rfl
   rw [el] at hgc ⊢
   obtain ⟨x, hx⟩ : ∃ x, x = z_a3 k := ⟨_, rfl⟩
   have HXw : Hid (x = z_a3 k) := hx
   have hlen0 : ((r.length : Int) + 1 == 0) = false := by simp; omega
   clear hgB el hx
   cases he : (a.toList == x.toList) with
   | false =>
    have hne : (a.toList != x.toList) = true := by rw [bne, he]; rfl
    have HN : Hid (z_br (k : Int) d = false) := by
     show _ = _
     rw [HBk2.out]
     show (match z_af (z_aN a) r with | none => false | some d' => z_a0 (k : Int) (z_aN a) d d') = false
     cases z_af (z_aN a) r with
     | none => rfl
     | some d' =>
      exact z_je fun e => by
       have := z_kJ (s := a) (k := (k : Int)) (by omega) e.symm
       rw [HXw.out, this, z_aI] at he
       simp at he
    go_wp2_with fail
    refine wp_region_held_drew (S := (fun w' => w'.cell? ⟨g, off, none⟩ = some (.string a) ∧ w'.cell? ⟨w.heap.size, 0, none⟩ = some (.int .i64 k))) (by kernel_rfl) ?_ (fun hHeld => ?_)
    ·try dsimp only
     first | assumption | exact ⟨b0, y0⟩ | (go_keep; done)
    refine tkL 0 ?_
    try simp only [Act.put, nA, nB, nC, nD, nE, nF]
    refine tkL 1 ?_
    try simp only [Act.put, nA, nB, nC, nD, nE, nF]
    refine tkL 2 ?_
    try simp only [Act.put, nA, nB, nC, nD, nE, nF]
    refine tkL 3 ?_
    try simp only [Act.put, nA, nB, nC, nD, nE, nF]
    refine tkL 4 ?_
    try simp only [Act.put, nA, nB, nC, nD, nE, nF]
    refine tkL 5 ?_
    try simp only [Act.put, nA, nB, nC, nD, nE, nF]
    refine tkL 6 ?_
    try simp only [Act.put, nA, nB, nC, nD, nE, nF]
    refine tkL 8 ?_
    try simp only [Act.put, nA, nB, nC, nD, nE, nF]
    refine tkL 9 ?_
    try simp only [Act.put, nA, nB, nC, nD, nE, nF]
    refine wpAnyH_ready (rs := [7]) (by kernel_rfl) (by simp) ?_
    refine AllReadyH.cons rfl (fun K hK => ?_) AllReadyH.nil
    go_simp
    go_wp2_with (go_at_call 137; refine (z_b1 _).mono ?_; rintro e w4 ⟨rfl, hb4, hs4⟩; obtain ⟨HB4, HX4, HI4, HZ4, kc, bo', y0⟩ := z_g h1 h15 HB3.out HX3.out HI3.out HZ3.out hb4 hs4; have b0 := bo' g off _ hglt b0; rw [← HXw.out] at kc; clear hb4 hs4)
    refine hK.out _ _ ?_ (fun hHeld => ?_)
    ·try dsimp only
     first | assumption | exact ⟨b0, y0⟩ | (go_keep; done)
    clear hK K
    try simp only [Act.put, nA, nB, nC, nD, nE, nF]
    refine tkL 10 ?_
    try simp only [Act.put, nA, nB, nC, nD, nE, nF]
    refine wpAnyH_ready (rs := [11]) (by kernel_rfl) (by simp) ?_
    refine AllReadyH.cons rfl (fun K hK => ?_) AllReadyH.nil
    go_simp
    refine hK.out _ _ ?_ (fun hHeld => ?_)
    ·try dsimp only
     first | assumption | exact ⟨b0, y0⟩ | (go_keep; done)
    clear hK K
    try simp only [Act.put, nA, nB, nC, nD, nE, nF]
    refine tkL 12 ?_
    try simp only [Act.put, nA, nB, nC, nD, nE, nF]
    refine tkL 13 ?_
    try simp only [Act.put, nA, nB, nC, nD, nE, nF]
    refine wpAnyH_done (by kernel_rfl) ?_ _
    all_goals
     go_wp2_with fail
     go_ret
     exact ⟨by rw [HN.out]; rfl, HB4.out⟩
   | true =>
    have hne : (a.toList != x.toList) = false := by rw [bne, he]; rfl
    go_wp2_with fail
    refine wp_region_held_drew (S := (fun w' => w'.cell? ⟨g, off, none⟩ = some (.string a) ∧ w'.cell? ⟨w.heap.size, 0, none⟩ = some (.int .i64 k))) (by kernel_rfl) ?_ (fun hHeld => ?_)
    ·try dsimp only
     first | assumption | exact ⟨b0, y0⟩ | (go_keep; done)
    refine tkL 0 ?_
    try simp only [Act.put, nA, nB, nC, nD, nE, nF]
    refine tkL 1 ?_
    try simp only [Act.put, nA, nB, nC, nD, nE, nF]
    refine tkL 2 ?_
    try simp only [Act.put, nA, nB, nC, nD, nE, nF]
    refine tkL 3 ?_
    try simp only [Act.put, nA, nB, nC, nD, nE, nF]
    refine tkL 4 ?_
    try simp only [Act.put, nA, nB, nC, nD, nE, nF]
    refine tkL 5 ?_
    try simp only [Act.put, nA, nB, nC, nD, nE, nF]
    refine tkL 6 ?_
    try simp only [Act.put, nA, nB, nC, nD, nE, nF]
    refine tkL 8 ?_
    try simp only [Act.put, nA, nB, nC, nD, nE, nF]
    refine tkL 9 ?_
    try simp only [Act.put, nA, nB, nC, nD, nE, nF]
    refine wpAnyH_ready (rs := [7]) (by kernel_rfl) (by simp) ?_
    refine AllReadyH.cons rfl (fun K hK => ?_) AllReadyH.nil
    go_simp
    go_wp2_with (go_at_call 137; refine (z_b1 _).mono ?_; rintro e w4 ⟨rfl, hb4, hs4⟩; obtain ⟨HB4, HX4, HI4, HZ4, kc, bo', y0⟩ := z_g h1 h15 HB3.out HX3.out HI3.out HZ3.out hb4 hs4; have b0 := bo' g off _ hglt b0; rw [← HXw.out] at kc; clear hb4 hs4)
    refine hK.out _ _ ?_ (fun hHeld => ?_)
    ·try dsimp only
     first | assumption | exact ⟨b0, y0⟩ | (go_keep; done)
    clear hK K
    try simp only [Act.put, nA, nB, nC, nD, nE, nF]
    refine tkL 10 ?_
    try simp only [Act.put, nA, nB, nC, nD, nE, nF]
    refine wpAnyH_ready (rs := [11]) (by kernel_rfl) (by simp) ?_
    refine AllReadyH.cons rfl (fun K hK => ?_) AllReadyH.nil
    go_simp
    refine hK.out _ _ ?_ (fun hHeld => ?_)
    ·try dsimp only
     first | assumption | exact ⟨b0, y0⟩ | (go_keep; done)
    clear hK K
    try simp only [Act.put, nA, nB, nC, nD, nE, nF]
    refine tkL 12 ?_
    try simp only [Act.put, nA, nB, nC, nD, nE, nF]
    refine tkL 13 ?_
    try simp only [Act.put, nA, nB, nC, nD, nE, nF]
    refine wpAnyH_done (by kernel_rfl) ?_ _
    all_goals
     go_wp2_with fail
     refine (z_kE g off gc a r w4 (by omega) hgc HWz.out HZ4.out).mono ?_
     rintro e w5 ⟨hb5, k', tt, nm, ud, args, bo, cap', ok, rfl, hcp, hle, hs5, h1', h2'⟩
     have HB5 : Hid (Below w.heap.size w w5) := HB4.out.trans (hb5.mono HB4.out.size)
     have HX5 : Hid (Box5 w5 w.heap.size k d ao c) := HX4.out.below hb5
     have HI5 : Hid (StrsAt 0 w5.heap.size w5 ao d.args) := HI4.out.later hb5
     have HS5 : Hid (StrsAt 0 w5.heap.size w5 bo args) := hs5
     have HY1 : Hid (ok = true → k' = z_aN a ∧ z_af k' r = some ⟨tt, nm, args, ud⟩) := h1'
     have HY2 : Hid (ok = false → z_af (z_aN a) r = none) := h2'
     have hal : args.length ≤ 4398046510000 := by omega
     obtain ⟨y0', y1', y2', y3', y4'⟩ := HX5.out.cells
     have hplt5 : w.heap.size < w5.heap.size := HX5.out.lt
     clear hb5 hs5 h1' h2' y0 y1 y2 y3 y4 b0 kc bo' hcp
     cases ok with
     | false =>
      have HN : Hid (z_br (k : Int) d = false) := by
       show _ = _
       rw [HBk2.out]
       show (match z_af (z_aN a) r with | none => false | some d' => z_a0 (k : Int) (z_aN a) d d') = false
       rw [HY2.out rfl]
      go_wp2_with fail
      go_ret
      exact ⟨by rw [HN.out]; rfl, HB5.out.alloc HB5.out.size _⟩
     | true =>
      obtain ⟨hk', hr'⟩ := HY1.out rfl
      have HN : Hid (z_br (k : Int) d = z_a0 k' (k : Int) ⟨tt, nm, args, ud⟩ d) := by
       show _ = _
       rw [HBk2.out]
       show (match z_af (z_aN a) r with | none => false | some d' => z_a0 (k : Int) (z_aN a) d d') = _
       rw [← hk', hr']
       exact z_jD _ _ _ _
      have HB6 : Hid (∀ o : Obj, Below w5.heap.size w5 (w5.alloc o)) := fun o => (Below.refl _ _).alloc (Nat.le_refl _) _
      clear hk' hr'
      go_wp2_with fail
      refine (z_k0 k' (k : Int) ⟨tt, nm, args, ud⟩ d bo ao cap' c 0 0 _ (by show args.length ≤ _; omega) (by omega) (HS5.out.later (HB6.out _)) (HI5.out.later (HB6.out _))).mono ?_
      rintro e w7 ⟨rfl, hb7⟩
      have HB7 : Hid (Below w.heap.size w w7) := HB5.out.trans (((HB6.out _).trans (hb7.mono (HB6.out _).size)).mono HB5.out.size)
      clear hb7
      go_wp2_with fail
      go_ret
      exact ⟨by rw [HN.out]; rfl, HB7.out⟩
end
end Go.Proofs.YtlbjjbolbopfmaaGreatDoor
