import Derived.Test.YtlbjjbolbopfmaaGreatDoorJ10
import Derived.Test.YtlbjjbolbopfmaaGreatDoorJ21
import Derived.Test.YtlbjjbolbopfmaaGreatDoorJ23
import Derived.Deep.CutRange
import Derived.Test.YtlbjjbolbopfmaaGreatDoorJ16
import Derived.Deep.DeepCutAuto
import Derived.Deep.RegionHeld3
import Derived.Test.YtlbjjbolbopfmaaGreatDoorJ17
import Derived.Stop.Asserts
import Derived.Test.YtlbjjbolbopfmaaGreatDoorJ03
import Derived.Shelf.Strings.BuilderK
namespace Go.Proofs.YtlbjjbolbopfmaaGreatDoor
set_option maxHeartbeats 4000000
set_option maxRecDepth 1000000
set_option linter.unusedVariables false
section
open Go.RowKit
def codesS : List ByteArray := [⟨#[]⟩, ⟨#[108, 101, 116]⟩, ⟨#[100, 111]⟩, ⟨#[115, 108, 101, 101, 112]⟩, ⟨#[103, 101, 116]⟩, ⟨#[116, 101, 115, 116]⟩, ⟨#[112, 97, 116, 99, 104]⟩, ⟨#[106, 117, 109, 112]⟩, ⟨#[102, 111, 114, 107]⟩, ⟨#[106, 111, 105, 110]⟩, ⟨#[114, 101, 116, 117, 114, 110]⟩, ⟨#[102, 97, 105, 108]⟩, ⟨#[110, 101, 120, 116]⟩]
def z_cT (c : Nat) : ByteArray := codesS.getD c ⟨#[]⟩
def catW : ByteArray → List ByteArray → ByteArray
 | t, [] => t
 | t, x :: r => catW (t ++ ⟨#[32]⟩ ++ x) r
theorem z_bY : ∀ (a b : List ByteArray) (t : ByteArray), catW t (a ++ b) = catW (catW t a) b
 | [], b, t => rfl
 | x :: r, b, t => z_bY r b _
def z_nj : ByteArray := ⟨#[117, 110, 100, 111]⟩
def toT : ByteArray := ⟨#[116, 111]⟩
theorem z_kT (c : Nat) (h : c ≤ 12) (w : World) : Calls Tryz.prog 77 #[.int .i64 c] w fun e w' => e = .returned (.string (z_cT c)) ∧ Below w.heap.size w w' := by
 have HB : Hid (∀ o : Obj, Below w.heap.size w (w.alloc o)) := fun o => (Below.refl _ _).alloc (Nat.le_refl _) o
 have hc : c = 0 ∨ c = 1 ∨ c = 2 ∨ c = 3 ∨ c = 4 ∨ c = 5 ∨ c = 6 ∨ c = 7 ∨ c = 8 ∨ c = 9 ∨ c = 10 ∨ c = 11 ∨ c = 12 := by omega
 rcases hc with rfl | rfl | rfl | rfl | rfl | rfl | rfl | rfl | rfl | rfl | rfl | rfl | rfl
 all_goals
  go_enter Tryz.func77, Tryz.ntmps77
  go_wp2
  go_ret
  exact ⟨rfl, HB.out _⟩
end
section
open Go.RowKit
def toW (c a b : Nat) : List ByteArray := if c = 5 ∨ c = 6 ∨ c = 8 then [toT, decW a, decW b] else if c = 7 ∨ c = 9 then [toT, decW a] else []
def z_iP (c : Nat) (tt nm : ByteArray) (args : List ByteArray) (undo : ByteArray) (a b : Nat) : List ByteArray := z_ay [tt, nm] ++ args ++ z_cn undo ++ toW c a b
def z_cG (c : Nat) (tt nm : ByteArray) (args : List ByteArray) (undo : ByteArray) (a b : Nat) : ByteArray := catW (z_cT c) (z_iP c tt nm args undo a b)
theorem z_lB {s : ByteArray} (h : s.size = 0) : z_ay [s] = [] := by unfold z_ay; rw [List.filter_cons_of_neg (by simpa using h)]; rfl
theorem z_j6 {s : ByteArray} (h : s.size ≠ 0) : z_ay [s] = [s] := by unfold z_ay; rw [List.filter_cons_of_pos (by simpa using h)]; rfl
theorem z_mr (s t : ByteArray) : z_ay [s, t] = z_ay [s] ++ z_ay [t] := by
 show z_ay ([s] ++ [t]) = _
 unfold z_ay; rw [List.filter_append]
theorem z_cZ (M : Nat) : ∀ (ws : List ByteArray) (t : ByteArray), (∀ s ∈ ws, s.size ≤ M) → (catW t ws).size ≤ t.size + ws.length * (M + 1)
 | [], t, _ => by simp [catW]
 | x :: r, t, h => by
  have h1 := z_cZ M r (t ++ ⟨#[32]⟩ ++ x) (fun s hs => h s (by simp [hs]))
  have h2 := h x (by simp)
  rw [ByteArray.size_append, ByteArray.size_append] at h1
  have h3 : (⟨#[32]⟩ : ByteArray).size = 1 := rfl
  rw [h3] at h1
  simp only [catW, List.length_cons]
  rw [Nat.succ_mul]; omega
theorem z_hk {M : Nat} {ws : List ByteArray} (h : ∀ s ∈ ws, s.size ≤ M) : ∀ s ∈ z_ay ws, s.size ≤ M := fun s hs => h s (List.mem_filter.1 hs).1
theorem z_ga (c : Nat) : (z_cT c).size ≤ 8 := by
 unfold z_cT
 by_cases h : c < 13
 ·have hc : c = 0 ∨ c = 1 ∨ c = 2 ∨ c = 3 ∨ c = 4 ∨ c = 5 ∨ c = 6 ∨ c = 7 ∨ c = 8 ∨ c = 9 ∨ c = 10 ∨ c = 11 ∨ c = 12 := by omega
  rcases hc with rfl | rfl | rfl | rfl | rfl | rfl | rfl | rfl | rfl | rfl | rfl | rfl | rfl <;> decide
 ·rw [List.getD_eq_getElem?_getD, List.getElem?_eq_none (by simp [codesS]; omega)]; decide
theorem z_cN {W : World} {g o : Nat} {v : Value} (h : W.cell? ⟨g, o, none⟩ = some v) : ∃ x, W.heap[g]? = some x := by
 cases hx : W.heap[g]? with
 | none => simp [World.cell?, hx] at h
 | some x => exact ⟨x, rfl⟩
theorem z_kg (t u : ByteArray) : (t ++ ⟨#[32, 117, 110, 100, 111, 32]⟩) ++ u = catW t [z_nj, u] := by
 simp only [catW, z_nj]
 apply ByteArray.ext
 apply Array.ext'
 simp
theorem z_l1 (t x : ByteArray) : (t ++ ⟨#[32, 116, 111, 32]⟩) ++ x = catW t [toT, x] := by
 simp only [catW, toT]
 apply ByteArray.ext
 apply Array.ext'
 simp
theorem z_nc (t x y : ByteArray) : (((t ++ ⟨#[32, 116, 111, 32]⟩) ++ x) ++ ⟨#[32]⟩) ++ y = catW t [toT, x, y] := by
 rw [z_l1]; rfl
theorem z_dD (u : ByteArray) : z_cn u = if u.size = 0 then [] else [z_nj, u] := rfl
def TxW (w wx : World) (c a b : Nat) (tt nm undo : ByteArray) (ao : Option Addr) (n cap : Nat) : Prop :=
 Below w.heap.size w wx ∧ wx.cell? ⟨w.heap.size, 0, none⟩ = some (.int .i64 c) ∧ wx.cell? ⟨w.heap.size, 1, none⟩ = some (.string tt) ∧ wx.cell? ⟨w.heap.size, 2, none⟩ = some (.string nm) ∧ wx.cell? ⟨w.heap.size, 3, none⟩ = some (.slice ao n cap) ∧ wx.cell? ⟨w.heap.size, 4, none⟩ = some (.string undo) ∧ wx.cell? ⟨w.heap.size, 5, none⟩ = some (.int .i64 a) ∧ wx.cell? ⟨w.heap.size, 6, none⟩ = some (.int .i64 b)
theorem z_k2 (c a b : Nat) (tt nm undo : ByteArray) (args : List ByteArray) (ao : Option Addr) (cap : Nat) (w : World) (hc : c ≤ 12) (ha : a ≤ 1000000000) (hb : b ≤ 1000000000) (h1 : tt.size ≤ 1048576) (h2 : nm.size ≤ 1048576) (h3 : undo.size ≤ 1048576) (h4 : ∀ s ∈ args, s.size ≤ 1048576) (hl : args.length ≤ 1048576) (hi : StrsAt 0 w.heap.size w ao args) :
  Calls Tryz.prog 41 #[.agg #[.int .i64 c, .string tt, .string nm, .slice ao args.length cap, .string undo, .int .i64 a, .int .i64 b]] w fun e w' => e = .returned (.string (z_cG c tt nm args undo a b)) ∧ Below w.heap.size w w' := by
 have HI : Hid (StrsAt 0 w.heap.size w ao args) := hi
 have HZ : Hid (∀ s ∈ args, s.size ≤ 1048576) := h4
 have HCS := z_ga c
 clear hi h4
 go_enter Tryz.func41, Tryz.ntmps41
 go_upto_if 10 with (go_at_call 77; refine (z_kT c hc _).mono ?_; rintro e w2 ⟨rfl, hb2⟩; have HT2 : Hid (TxW w w2 c a b tt nm undo ao args.length cap) := ⟨((Below.refl _ _).alloc (Nat.le_refl _) _).trans (hb2.mono (by simp)), (hb2.cell (p := ⟨w.heap.size, 0, none⟩) (by simp)).trans (by simp), (hb2.cell (p := ⟨w.heap.size, 1, none⟩) (by simp)).trans (by simp), (hb2.cell (p := ⟨w.heap.size, 2, none⟩) (by simp)).trans (by simp), (hb2.cell (p := ⟨w.heap.size, 3, none⟩) (by simp)).trans (by simp), (hb2.cell (p := ⟨w.heap.size, 4, none⟩) (by simp)).trans (by simp), (hb2.cell (p := ⟨w.heap.size, 5, none⟩) (by simp)).trans (by simp), (hb2.cell (p := ⟨w.heap.size, 6, none⟩) (by simp)).trans (by simp)⟩; obtain ⟨_, y0, y1, y2, y3, y4, y5, y6⟩ := HT2.out; clear hb2)
 obtain ⟨K1, hK1⟩ : ∃ K1, K1 = catW (z_cT c) (z_ay [tt]) := ⟨_, rfl⟩
 have HK1 : Hid (K1 = catW (z_cT c) (z_ay [tt])) := hK1
 have hsK1 : K1.size ≤ (z_cT c).size + 1048577 := by
  rw [hK1]
  have := z_cZ 1048576 (z_ay [tt]) (z_cT c) (z_hk (fun s hs => by simp at hs; rw [hs]; exact h1))
  have h9 : (z_ay [tt]).length ≤ 1 := List.length_filter_le _ _
  have h8 : (z_ay [tt]).length * 1048577 ≤ 1 * 1048577 := Nat.mul_le_mul_right _ h9
  omega
 clear hK1
 go_cut [3] from 10 to 16 (fun v wx => v = .string K1 ∧ Hid (TxW w wx c a b tt nm undo ao args.length cap))
 case first =>
  by_cases he : tt.size = 0
  ·have hq : (!tt.toList.isEmpty) = false := by rw [z_av]; simpa using he
   have HE : Hid (K1 = (z_cT c)) := by rw [Hid, HK1.out, z_lB he]; rfl
   clear hsK1 he
   rw [hq]
   go_wp2
   go_meet
   case rel => exact ⟨by rw [HE.out] <;> rfl, HT2⟩
  ·have hq : (!tt.toList.isEmpty) = true := by rw [z_av]; simpa using he
   have HE : Hid (K1 = (z_cT c) ++ ⟨#[32]⟩ ++ tt) := by rw [Hid, HK1.out, z_j6 he]; rfl
   have f1 : ¬ 9223372036854775807 < (z_cT c).size + 1 := by omega
   have f2 : ¬ 9223372036854775807 < (z_cT c).size + 1 + tt.size := by omega
   clear hsK1 he
   rw [hq]
   go_wp2
   go_meet
   case rel => exact ⟨by rw [HE.out] <;> rfl, HT2⟩
 case rest =>
  obtain ⟨rfl, HT3⟩ := hcut
  clear HT2 y0 y1 y2 y3 y4 y5 y6
  obtain ⟨_, y0, y1, y2, y3, y4, y5, y6⟩ := HT3.out
  go_upto_if 18 with fail
  obtain ⟨K2, hK2⟩ : ∃ K2, K2 = catW K1 (z_ay [nm]) := ⟨_, rfl⟩
  have HK2 : Hid (K2 = catW K1 (z_ay [nm])) := hK2
  have hsK2 : K2.size ≤ K1.size + 1048577 := by
   rw [hK2]
   have := z_cZ 1048576 (z_ay [nm]) K1 (z_hk (fun s hs => by simp at hs; rw [hs]; exact h2))
   have h9 : (z_ay [nm]).length ≤ 1 := List.length_filter_le _ _
   have h8 : (z_ay [nm]).length * 1048577 ≤ 1 * 1048577 := Nat.mul_le_mul_right _ h9
   omega
  clear hK2
  go_cut [3] from 18 to 24 (fun v wx => v = .string K2 ∧ Hid (TxW w wx c a b tt nm undo ao args.length cap))
  case first =>
   by_cases he : nm.size = 0
   ·have hq : (!nm.toList.isEmpty) = false := by rw [z_av]; simpa using he
    have HE : Hid (K2 = K1) := by rw [Hid, HK2.out, z_lB he]; rfl
    clear hsK2 he
    rw [hq]
    go_wp2
    go_meet
    case rel => exact ⟨by rw [HE.out] <;> rfl, HT3⟩
   ·have hq : (!nm.toList.isEmpty) = true := by rw [z_av]; simpa using he
    have HE : Hid (K2 = K1 ++ ⟨#[32]⟩ ++ nm) := by rw [Hid, HK2.out, z_j6 he]; rfl
    have f1 : ¬ 9223372036854775807 < K1.size + 1 := by omega
    have f2 : ¬ 9223372036854775807 < K1.size + 1 + nm.size := by omega
    clear hsK2 he
    rw [hq]
    go_wp2
    go_meet
    case rel => exact ⟨by rw [HE.out] <;> rfl, HT3⟩
  case rest =>
   obtain ⟨rfl, HT4⟩ := hcut
   clear HT3 y0 y1 y2 y3 y4 y5 y6
   obtain ⟨hbw, y0, y1, y2, y3, y4, y5, y6⟩ := HT4.out
   have HI4 : Hid (StrsAt 0 wc.heap.size wc ao args) := HI.out.later hbw
   clear hbw
   have hk2 : K2.size ≤ 3200000 := by omega
   have HCZ : Hid (∀ j, (catW K2 (args.take j)).size ≤ 3200000 + 1048576 * 1048577) := fun j => by
    have h9 := z_cZ 1048576 (args.take j) K2 (fun s hs => HZ.out s (List.mem_of_mem_take hs))
    have h8 : (args.take j).length ≤ 1048576 := by rw [List.length_take]; omega
    have h7 : (args.take j).length * 1048577 ≤ 1048576 * 1048577 := Nat.mul_le_mul_right _ h8
    omega
   clear hsK1 hsK2 hk2
   go_wp2_with fail
   go_loop [3, 4] (fun y iv => ∃ (j : Nat) (O : ByteArray), j ≤ args.length ∧ iv = .int .i64 j ∧ y = .string O ∧ Hid (O = catW K2 (args.take j))) (fun _ iv => args.length - (intOf iv).toNat)
   case atStart => exact ⟨0, K2, Nat.zero_le _, rfl, rfl, rfl⟩
   case round =>
    obtain ⟨j, O, hj, rfl, rfl, HO⟩ := hrel
    have hos := HCZ.out j
    rw [← HO.out] at hos
    by_cases hlt : j < args.length
    ·obtain ⟨b', off', rfl, _, hcl⟩ := HI4.out.at j hlt
     have HN : Hid ((O ++ ⟨#[32]⟩) ++ args[j] = catW K2 (args.take (j + 1))) := by
      rw [Hid, List.take_succ_eq_append_getElem hlt, z_bY, ← HO.out]; rfl
     have hsj := HZ.out _ (List.getElem_mem hlt)
     obtain ⟨x, hx⟩ : ∃ x, x = args[j] := ⟨_, rfl⟩
     rw [← hx] at hcl HN hsj
     have f1 : ¬ 9223372036854775807 < O.size + 1 := by omega
     have f2 : ¬ 9223372036854775807 < O.size + 1 + x.size := by omega
     clear hx hos
     go_wp2
     go_round
     case rel => exact ⟨j + 1, _, by omega, by go_num, rfl, HN⟩
     case measure => simp [intOf]; omega
    ·have e : j = args.length := by omega
     subst e
     rw [List.take_length] at HO
     go_upto_if 41 with fail
     obtain ⟨K3, hK3⟩ : ∃ K3, K3 = catW O (z_cn undo) := ⟨_, rfl⟩
     have HK3 : Hid (K3 = catW O (z_cn undo)) := hK3
     have hs3 : K3.size ≤ O.size + 1048590 := by
      rw [hK3, z_dD]
      split
      ·show O.size ≤ _; omega
      ·rw [← z_kg, ByteArray.size_append, ByteArray.size_append]
       have h9 : (⟨#[32, 117, 110, 100, 111, 32]⟩ : ByteArray).size = 6 := rfl
       omega
     clear hK3
     go_cut [3] from 41 to 47 (fun v wx => v = .string K3 ∧ Hid (TxW w wx c a b tt nm undo ao args.length cap))
     case first =>
      by_cases he : undo.size = 0
      ·have hq : (!undo.toList.isEmpty) = false := by rw [z_av]; simpa using he
       have HE : Hid (K3 = O) := by rw [Hid, HK3.out, z_dD, if_pos he]; rfl
       clear hs3 he
       rw [hq]
       go_wp2
       go_meet
       case rel => exact ⟨by rw [HE.out] <;> rfl, HT4⟩
      ·have hq : (!undo.toList.isEmpty) = true := by rw [z_av]; simpa using he
       have HE : Hid (K3 = (O ++ ⟨#[32, 117, 110, 100, 111, 32]⟩) ++ undo) := by rw [Hid, HK3.out, z_dD, if_neg he, z_kg]
       have f1 : ¬ 9223372036854775807 < O.size + 6 := by omega
       have f2 : ¬ 9223372036854775807 < O.size + 6 + undo.size := by omega
       clear hs3 he
       rw [hq]
       go_wp2
       go_meet
       case rel => exact ⟨by rw [HE.out] <;> rfl, HT4⟩
     case rest =>
      obtain ⟨rfl, HT5⟩ := hcut
      clear HT4 y0 y1 y2 y3 y4 y5 y6
      obtain ⟨hbw, y0, y1, y2, y3, y4, y5, y6⟩ := HT5.out
      have HBW : Hid (Below w.heap.size w wc) := hbw
      have hk3 : K3.size ≤ 2199023255552 := by omega
      have HS3 : Hid (z_cG c tt nm args undo a b = catW K3 (toW c a b)) := by
       rw [Hid, z_cG, z_iP, z_bY, z_bY, z_bY, z_mr, z_bY, HK3.out, HO.out, HK2.out, HK1.out]
      clear hbw hos hs3
      have hbx : w.heap.size < wc.heap.size := by obtain ⟨x, hx⟩ := z_cN y0; exact (Array.getElem?_eq_some_iff.1 hx).1
      have sa := z_cd a ha
      have sb := z_cd b hb
      have f1 : ¬ 9223372036854775807 < K3.size + 4 := by omega
      have f2 : ¬ 9223372036854775807 < K3.size + 4 + (decW a).size := by omega
      have f3 : ¬ 9223372036854775807 < K3.size + 4 + (decW a).size + 1 := by omega
      have f4 : ¬ 9223372036854775807 < K3.size + 4 + (decW a).size + 1 + (decW b).size := by omega
      by_cases ht : c = 5 ∨ c = 6 ∨ c = 8
      ·have HR : Hid (z_cG c tt nm args undo a b = (((K3 ++ ⟨#[32, 116, 111, 32]⟩) ++ decW a) ++ ⟨#[32]⟩) ++ decW b) := by rw [Hid, HS3.out, toW, if_pos ht, z_nc]
       rcases ht with rfl | rfl | rfl
       all_goals
        go_wp2_with fail
        go_region_held3 (fun wx => wx.cell? ⟨w.heap.size, 5, none⟩ = some (.int .i64 a) ∧ wx.cell? ⟨w.heap.size, 6, none⟩ = some (.int .i64 b))
         (first | (go_keep; done) | exact HZ3.out | exact HZ4.out)
         (first
          | (go_at_call_of 40 a; refine (z_dQ a ha _).mono ?_; rintro e w3 ⟨rfl, hb3⟩; have HB3 : Hid (Below w.heap.size w w3) := HBW.out.drew.trans (hb3.mono HBW.out.size); have HZ3 : Hid (w3.cell? ⟨w.heap.size, 5, none⟩ = some (.int .i64 a) ∧ w3.cell? ⟨w.heap.size, 6, none⟩ = some (.int .i64 b)) := ⟨(hb3.cell (p := ⟨w.heap.size, 5, none⟩) hbx).trans y5, (hb3.cell (p := ⟨w.heap.size, 6, none⟩) hbx).trans y6⟩; have HLT : Hid (w.heap.size < w3.heap.size) := Nat.lt_of_lt_of_le hbx hb3.size; clear hb3)
          | (go_at_call_of 40 b; refine (z_dQ b hb _).mono ?_; rintro e w4 ⟨rfl, hb4⟩; have HB4 : Hid (Below w.heap.size w w4) := HB3.out.trans (hb4.mono HB3.out.size); have HZ4 : Hid (w4.cell? ⟨w.heap.size, 5, none⟩ = some (.int .i64 a) ∧ w4.cell? ⟨w.heap.size, 6, none⟩ = some (.int .i64 b)) := ⟨(hb4.cell (p := ⟨w.heap.size, 5, none⟩) (by have := HB3.out.size; have := HLT.out; show w.heap.size < _; omega)).trans HZ3.out.1, (hb4.cell (p := ⟨w.heap.size, 6, none⟩) (by have := HB3.out.size; have := HLT.out; show w.heap.size < _; omega)).trans HZ3.out.2⟩; clear hb4))
        go_wp2
        go_ret
        exact ⟨by rw [HR.out] <;> rfl, HB4.out⟩
      ·by_cases ht2 : c = 7 ∨ c = 9
       ·have HR : Hid (z_cG c tt nm args undo a b = (K3 ++ ⟨#[32, 116, 111, 32]⟩) ++ decW a) := by rw [Hid, HS3.out, toW, if_neg ht, if_pos ht2, z_l1]
        rcases ht2 with rfl | rfl
        all_goals
         go_wp2_with fail
         refine (z_dQ a ha _).mono ?_
         rintro e w3 ⟨rfl, hb3⟩
         have HB3 : Hid (Below w.heap.size w w3) := HBW.out.trans (hb3.mono HBW.out.size)
         clear hb3
         go_wp2
         go_ret
         exact ⟨by rw [HR.out] <;> rfl, HB3.out⟩
       ·have HR : Hid (z_cG c tt nm args undo a b = K3) := by rw [Hid, HS3.out, toW, if_neg ht, if_neg ht2]; rfl
        have g5 : ((c : Int) == 5) = false := by simp; omega
        have g6 : ((c : Int) == 6) = false := by simp; omega
        have g7 : ((c : Int) == 7) = false := by simp; omega
        have g8 : ((c : Int) == 8) = false := by simp; omega
        have g9 : ((c : Int) == 9) = false := by simp; omega
        go_wp2
        go_ret
        exact ⟨by rw [HR.out] <;> rfl, HBW.out⟩
end
section
open Go.RowKit
theorem z_e8 (n : Nat) : (⟨(Lib.itoa (n : Int)).toArray⟩ : ByteArray) = decW n := by unfold decW; rw [Lib.itoa_nonneg]
theorem z_in : ∀ (r : List ByteArray) (t : ByteArray), catW t r = ⟨(t.data.toList ++ Lib.joinTail [32] (r.map (·.data.toList))).toArray⟩
 | [], t => by simp [catW, Lib.joinTail]
 | x :: r, t => by
  rw [catW, z_in r]
  simp [Lib.joinTail, List.append_assoc]
theorem z_lU (t : ByteArray) (r : List ByteArray) : z_cc (t :: r) = catW t r := by
 rw [z_in, z_cc, List.map_cons, Lib.join_cons]
def z_mG (c : Nat) : Prop := c = 5 ∨ c = 6 ∨ c = 8
instance (c : Nat) : Decidable (z_mG c) := by unfold z_mG; infer_instance
def z_mR (c : Nat) : Prop := c = 7 ∨ c = 9
instance (c : Nat) : Decidable (z_mR c) := by unfold z_mR; infer_instance
def z_hV (c : Nat) : Nat := if z_mG c then 166 else if z_mR c then 167 else 164
def z_iS (c : Nat) : Value := if z_mG c then .agg #[.string (z_cT c)] else if z_mR c then .agg #[.string (z_cT c)] else .string (z_cT c)
theorem X.wordP (s : Value) (w : World) : (Go.method 379 164 s "loop.example/dunserv/impl.word").run Tryz.prog w = .ok (245, s) w := by kernel_rfl
theorem X.wordJ (s : Value) (w : World) : (Go.method 379 167 (.agg #[s]) "loop.example/dunserv/impl.word").run Tryz.prog w = .ok (245, s) w := by kernel_rfl
theorem X.wordQ (s : Value) (w : World) : (Go.method 379 166 (.agg #[s]) "loop.example/dunserv/impl.word").run Tryz.prog w = .ok (245, s) w := by kernel_rfl
theorem X.placesJ (s : Value) (w : World) : (Go.method 379 167 (.agg #[s]) "loop.example/dunserv/impl.places").run Tryz.prog w = .ok (247, .agg #[s]) w := by kernel_rfl
theorem X.placesQ (s : Value) (w : World) : (Go.method 379 166 (.agg #[s]) "loop.example/dunserv/impl.places").run Tryz.prog w = .ok (246, .agg #[s]) w := by kernel_rfl
theorem X.leadP (v : Value) (xT : TypeId) (w : World) : (Instr.typeAssert (.iface 164 v) xT 116 true).run Tryz.prog w = .ok (.tuple #[.nilIface, .bool false]) w := run_typeAssert_lacksB Tryz.underlying116 (by kernel_rfl) (by kernel_rfl) v xT w
theorem X.leadJ (v : Value) (xT : TypeId) (w : World) : (Instr.typeAssert (.iface 167 v) xT 116 true).run Tryz.prog w = .ok (.tuple #[.iface 167 v, .bool true]) w := run_typeAssert_hasB Tryz.underlying116 (by kernel_rfl) v xT w
theorem X.leadQ (v : Value) (xT : TypeId) (w : World) : (Instr.typeAssert (.iface 166 v) xT 116 true).run Tryz.prog w = .ok (.tuple #[.iface 166 v, .bool true]) w := run_typeAssert_hasB Tryz.underlying116 (by kernel_rfl) v xT w
theorem z_lk (c : Nat) (w : World) : (Go.method 379 (z_hV c) (z_iS c) "loop.example/dunserv/impl.word").run Tryz.prog w = .ok (245, .string (z_cT c)) w := by
 unfold z_hV z_iS
 by_cases h : z_mG c
 ·rw [if_pos h, if_pos h]; exact X.wordQ _ w
 ·rw [if_neg h, if_neg h]
  by_cases h2 : z_mR c
  ·rw [if_pos h2, if_pos h2]; exact X.wordJ _ w
  ·rw [if_neg h2, if_neg h2]; exact X.wordP _ w
theorem z_mV (s : ByteArray) (w : World) : Calls Tryz.prog 245 #[.string s] w fun e w' => e = .returned (.string s) ∧ w' = w := by
 go_enter Tryz.func245, Tryz.ntmps245
 go_wp2
 go_ret
 exact ⟨rfl, rfl⟩
theorem z_fK (c : Nat) (h0 : 1 ≤ c) (h : c ≤ 12) (w : World) : Calls Tryz.prog 80 #[.int .i64 c] w fun e w' => e = .returned (.iface (z_hV c) (z_iS c)) ∧ w' = w := by
 have hc : c = 1 ∨ c = 2 ∨ c = 3 ∨ c = 4 ∨ c = 5 ∨ c = 6 ∨ c = 7 ∨ c = 8 ∨ c = 9 ∨ c = 10 ∨ c = 11 ∨ c = 12 := by omega
 rcases hc with rfl | rfl | rfl | rfl | rfl | rfl | rfl | rfl | rfl | rfl | rfl | rfl
 all_goals
  go_enter Tryz.func80, Tryz.ntmps80
  go_wp2
  go_ret
  exact ⟨rfl, rfl⟩
theorem z_jJ (k : ByteArray) (c tt nm ar un b : Value) (a : Nat) (w : World) : Calls Tryz.prog 247 #[.agg #[.string k], .agg #[c, tt, nm, ar, un, .int .i64 a, b]] w fun e w' => ∃ g, e = .returned (.slice (some ⟨g, 0, none⟩) 1 1) ∧ Below w.heap.size w w' ∧ w.heap.size ≤ g ∧ g < w'.heap.size ∧ w'.cell? ⟨g, 0, none⟩ = some (.int .i64 a) := by
 go_enter Tryz.func247, Tryz.ntmps247
 go_wp2
 go_ret
 exact ⟨_, rfl, (((Below.refl _ _).alloc (Nat.le_refl _) _).alloc (by first | omega | (simp [go_sem]; done) | (simp; done) | (simp; omega) | assumption) _).alloc (by first | omega | (simp [go_sem]; done) | (simp; done) | (simp; omega) | assumption) _, (by first | omega | (simp [go_sem]; done) | (simp; done) | (simp; omega) | assumption), (by first | omega | (simp [go_sem]; done) | (simp; done) | (simp; omega) | assumption), (by first | omega | (simp [go_sem]; done) | (simp; done) | (simp; omega) | assumption)⟩
theorem z_ja (k : ByteArray) (c tt nm ar un : Value) (a b : Nat) (w : World) : Calls Tryz.prog 246 #[.agg #[.string k], .agg #[c, tt, nm, ar, un, .int .i64 a, .int .i64 b]] w fun e w' => ∃ g, e = .returned (.slice (some ⟨g, 0, none⟩) 2 2) ∧ Below w.heap.size w w' ∧ w.heap.size ≤ g ∧ g < w'.heap.size ∧ w'.cell? ⟨g, 0, none⟩ = some (.int .i64 a) ∧ w'.cell? ⟨g, 1, none⟩ = some (.int .i64 b) := by
 go_enter Tryz.func246, Tryz.ntmps246
 go_wp2
 go_ret
 exact ⟨_, rfl, (((Below.refl _ _).alloc (Nat.le_refl _) _).alloc (by first | omega | (simp [go_sem]; done) | (simp; done) | (simp; omega) | assumption) _).alloc (by first | omega | (simp [go_sem]; done) | (simp; done) | (simp; omega) | assumption) _, (by first | omega | (simp [go_sem]; done) | (simp; done) | (simp; omega) | assumption), (by first | omega | (simp [go_sem]; done) | (simp; done) | (simp; omega) | assumption), (by first | omega | (simp [go_sem]; done) | (simp; done) | (simp; omega) | assumption), (by first | omega | (simp [go_sem]; done) | (simp; done) | (simp; omega) | assumption)⟩
end
section
open Go.RowKit
theorem z_nV (b : Nat) (w : World) (h0 : w.cell? ⟨b, 0, none⟩ = some (.pointer (some ⟨b, 0, none⟩))) : Calls Tryz.prog 78 #[.pointer (some ⟨b, 0, none⟩)] w fun e w' => e = .returned (.tuple #[]) ∧ w' = w := by
 obtain ⟨j, hj, _⟩ := Option.map_eq_some_iff.1 Tryz.Builder_Extra_169.sizeBuilder
 go_enter Tryz.func78, Tryz.ntmps78
 go_wp2
 rw [Lib.run_neq_ptr_same w _ Tryz.underlying72 hj]
 go_wp2
 go_end0
 exact ⟨rfl, rfl⟩
theorem z_np (b : Nat) (w : World) (h0 : w.cell? ⟨b, 0, none⟩ = some (.pointer none)) (hsh : w.shape? b = some (74, 2)) (hfz : w.frozen? ⟨b, 0, none⟩ = false) : Calls Tryz.prog 78 #[.pointer (some ⟨b, 0, none⟩)] w fun e w' => e = .returned (.tuple #[]) ∧ w' = w.setCell ⟨b, 0, none⟩ (.pointer (some ⟨b, 0, none⟩)) := by
 obtain ⟨j, hj, hjs⟩ := Option.map_eq_some_iff.1 Tryz.Builder_Extra_169.sizeBuilder
 have hx := @run_callFunc_extern Tryz.prog 114 _ Extern.AbiNoEscape.same Tryz.func114 (by kernel_rfl) (by kernel_rfl) (by kernel_rfl) (by kernel_rfl)
 have h1 := Lib.run_to_unsafe w ⟨b, 0, none⟩ Tryz.underlying72 Tryz.underlying141 hj (by rw [hjs]; decide) hsh (Nat.zero_lt_succ 1)
 have h2 := Lib.run_from_unsafe w ⟨b, 0, none⟩ Tryz.underlying141 Tryz.underlying72 hj hsh Tryz.Builder_Extra_169.liesBuilder
 go_enter Tryz.func78, Tryz.ntmps78
 go_wp2
 rw [Lib.run_noEscape]
 simp only [Result.andThen]
 rw [Oper.upon_value]
 go_wp2
 go_end0
 exact ⟨rfl, rfl⟩
theorem z_m2 (B b : Nat) (bs : List Value) (w : World) (h : Lib.IsBuilder 74 5 B b bs w) : Calls Tryz.prog 78 #[.pointer (some ⟨b, 0, none⟩)] w fun e w' => e = .returned (.tuple #[]) ∧ Lib.BuilderAt 74 5 B b (.pointer (some ⟨b, 0, none⟩)) bs w' ∧ Below B w w' ∧ Lib.OthersKept 5 (some b) w w' := by
 rcases h with h | h
 ·refine (z_np b w h.cell0 h.shape h.frozen0).mono ?_
  rintro e w' ⟨rfl, rfl⟩
  exact ⟨rfl, h.used _, (Below.refl B w).setCell (p := ⟨b, 0, none⟩) h.1 _, (Lib.OthersKept.refl _ _ w).setCell ⟨b, 0, none⟩ rfl _⟩
 ·refine (z_nV b w h.cell0).mono ?_
  rintro e w' ⟨rfl, rfl⟩
  exact ⟨rfl, h, Below.refl B _, Lib.OthersKept.refl _ _ _⟩
theorem z_jT {w : World} {B : Nat} {e : TypeId} {size : Nat} {v : Value} {n : Nat} {xs : List Value} (h : w.ownsRow B e size v n xs) : ∀ g, v.ownBlock = some g → ∃ c fz, w.heap[g]? = some (.cells c e fz) := by
 intro g hg
 rcases h.2 with ⟨hv, _⟩ | ⟨g2, cap, cur, hv, _, hh, _⟩
 ·rw [hv] at hg; cases hg
 ·rw [hv] at hg
  have e2 : g2 = g := by simpa [Value.ownBlock] using hg
  subst e2
  exact ⟨_, _, hh⟩
theorem b_lt {w : World} {b : Nat} {o : Obj} (h : w.heap[b]? = some o) : b < w.heap.size := (Array.getElem?_eq_some_iff.1 h).1
theorem z_dO (B b : Nat) (bs : List Value) (c : Int) (w : World) (h : Lib.IsBuilder 74 5 B b bs w) (hlen : bs.length + 1 ≤ 140737488355328) (hBw : B ≤ w.heap.size) :
  Calls Tryz.prog 44 #[.pointer (some ⟨b, 0, none⟩), .int .u8 c] w fun e w' => e = .returned .nilIface ∧ Lib.IsBuilder 74 5 B b (bs ++ [.int .u8 c]) w' ∧ Below B w w' ∧ Lib.OthersKept 5 (some b) w w' := by
 obtain ⟨i0, hi, hz0, hz1, hz2⟩ := info_parts Tryz.Builder_Extra_169.infoByte
 go_enter Tryz.func44, Tryz.ntmps44
 go_wp2_with fail
 refine (z_m2 B b bs _ h).mono ?_
 rintro e w1 ⟨rfl, h1, hb1, hk1⟩
 obtain ⟨hB, v, hbk, hown, hne⟩ := h1
 have c0 : w1.cell? ⟨b, 0, none⟩ = some (.pointer (some ⟨b, 0, none⟩)) := by rw [Lib.cell_of_heap hbk]; rfl
 have c1 : w1.cell? ⟨b, 1, none⟩ = some v := by rw [Lib.cell_of_heap hbk]; rfl
 have hs1 := hb1.size
 have hbl := b_lt hbk
 go_wp2_with (at_builtin; go_loud (refine wpList_append_own _ rfl _ _ 40 rfl B 5 i0 (.int .u8 0) 1 1 Tryz.underlying40 hi hz0 hz1 hz2 rfl (by decide) _ _ _ rfl (hown.alloc _) ⟨w1.heap.size, 0, none⟩ 1 1 [.int .u8 c] rfl rfl (cell_one_new _ _ _) (fun u hu => by simp at hu; subst hu; rfl) (by unfold maxLen; omega) (by omega) (by simp; omega) ?_; intro v2 w2 hown2 hgrow _; have hb2 : w2.heap[b]? = some (.cells #[.pointer (some ⟨b, 0, none⟩), v] 74 (0, 0)) := (by rw [hgrow.block b (by simp; omega) (fun e => hne e.symm), Lib.alloc_old w1 _ b hbl]; exact hbk); have d0 : w2.cell? ⟨b, 0, none⟩ = some (.pointer (some ⟨b, 0, none⟩)) := (by rw [Lib.cell_of_heap hb2]; rfl); have d1 : w2.cell? ⟨b, 1, none⟩ = some v := (by rw [Lib.cell_of_heap hb2]; rfl); have f1 : w2.frozen? ⟨b, 1, none⟩ = false := Lib.frozen_of_heap hb2 1; obtain ⟨g, cap, rfl, _, _⟩ := hown2.form (by omega)))
 go_ret
 refine ⟨rfl, .inr ?_, ?_, ((hk1.alloc _).grown hgrow (z_jT (hown.alloc _))).setCell ⟨b, 1, none⟩ rfl _⟩
 ·exact Lib.BuilderAt.put (T := 74) (e := 5) hB hb2 (bs' := bs ++ [.int .u8 c]) (by simpa using hown2) (by decide)
 ·exact ((hb1.alloc (by omega) _).grown hgrow (by simp; omega) (fun k hk => (hown.lt k hk).1)).setCell (p := ⟨b, 1, none⟩) hB _
theorem z_c7 (B b : Nat) (bs : List Value) (s : ByteArray) (w : World) (h : Lib.IsBuilder 74 5 B b bs w) (hlen : bs.length + s.size ≤ 140737488355328) (hBw : B ≤ w.heap.size) :
  Calls Tryz.prog 42 #[.pointer (some ⟨b, 0, none⟩), .string s] w fun e w' => e = .returned (.tuple #[.int .i64 s.size, .nilIface]) ∧ Lib.IsBuilder 74 5 B b (bs ++ Lib.strCells s) w' ∧ Below B w w' ∧ Lib.OthersKept 5 (some b) w w' := by
 obtain ⟨i0, hi, hz0, hz1, hz2⟩ := info_parts Tryz.Builder_Extra_169.infoByte
 go_enter Tryz.func42, Tryz.ntmps42
 go_wp2_with fail
 refine (z_m2 B b bs _ h).mono ?_
 rintro e w1 ⟨rfl, h1, hb1, hk1⟩
 obtain ⟨hB, v, hbk, hown, hne⟩ := h1
 have c0 : w1.cell? ⟨b, 0, none⟩ = some (.pointer (some ⟨b, 0, none⟩)) := by rw [Lib.cell_of_heap hbk]; rfl
 have c1 : w1.cell? ⟨b, 1, none⟩ = some v := by rw [Lib.cell_of_heap hbk]; rfl
 have hs1 := hb1.size
 have hbl := b_lt hbk
 go_wp2_with (at_builtin; go_loud (refine Lib.wpList_append_own_string _ rfl _ _ 40 9 rfl B 5 i0 Tryz.underlying40 Tryz.underlying9 hi hz0 hz1 hz2 _ _ _ rfl hown s rfl (by unfold maxLen; omega) (by omega) (by omega) ?_; intro v2 w2 hown2 hgrow _; have hb2 : w2.heap[b]? = some (.cells #[.pointer (some ⟨b, 0, none⟩), v] 74 (0, 0)) := (by rw [hgrow.block b hbl (fun e => hne e.symm)]; exact hbk); have d0 : w2.cell? ⟨b, 0, none⟩ = some (.pointer (some ⟨b, 0, none⟩)) := (by rw [Lib.cell_of_heap hb2]; rfl); have d1 : w2.cell? ⟨b, 1, none⟩ = some v := (by rw [Lib.cell_of_heap hb2]; rfl); have f1 : w2.frozen? ⟨b, 1, none⟩ = false := Lib.frozen_of_heap hb2 1; obtain ⟨ao, n2, cap, rfl⟩ : ∃ ao n2 cap, v2 = .slice ao n2 cap := (by rcases hown2.2 with ⟨hv, _⟩ | ⟨g, cap, cur, hv, _⟩ <;> exact ⟨_, _, _, hv⟩)))
 go_ret2
 refine ⟨rfl, .inr ?_, ?_, (hk1.grown hgrow (z_jT hown)).setCell ⟨b, 1, none⟩ rfl _⟩
 ·exact Lib.BuilderAt.put (T := 74) (e := 5) hB hb2 (bs' := bs ++ Lib.strCells s) (by simpa [Lib.strCells_length] using hown2) (by decide)
 ·exact (hb1.grown hgrow (by omega) (fun k hk => (hown.lt k hk).1)).setCell (p := ⟨b, 1, none⟩) hB _
end
end Go.Proofs.YtlbjjbolbopfmaaGreatDoor
