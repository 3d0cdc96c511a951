import Derived.Test.YtlbjjbolbopfmaaGreatDoorI39
import Derived.Test.YtlbjjbolbopfmaaGreatDoorI17
import Derived.Test.YtlbjjbolbopfmaaGreatDoorI26
import Derived.Deep.CutRange
import Derived.Test.YtlbjjbolbopfmaaGreatDoorI07
import Derived.Deep.DeepCutAuto
import Derived.Deep.RegionHeld3
import Derived.Stop.Asserts
namespace Go.Proofs.YtlbjjbolbopfmaaGreatDoor
set_option maxHeartbeats 4000000
set_option maxRecDepth 1000000
set_option linter.unusedVariables false
section
open Go.RowKit
def codesS : List ByteArray := [⟨#[]⟩, ⟨#[108, 101, 116]⟩, ⟨#[100, 111]⟩, ⟨#[115, 108, 101, 101, 112]⟩, ⟨#[103, 101, 116]⟩, ⟨#[116, 101, 115, 116]⟩, ⟨#[112, 97, 116, 99, 104]⟩, ⟨#[106, 117, 109, 112]⟩, ⟨#[102, 111, 114, 107]⟩, ⟨#[106, 111, 105, 110]⟩, ⟨#[114, 101, 116, 117, 114, 110]⟩, ⟨#[102, 97, 105, 108]⟩, ⟨#[110, 101, 120, 116]⟩]
def z_cR (c : Nat) : ByteArray := codesS.getD c ⟨#[]⟩
def catW : ByteArray → List ByteArray → ByteArray
 | t, [] => t
 | t, x :: r => catW (t ++ ⟨#[32]⟩ ++ x) r
theorem z_b0 : ∀ (a b : List ByteArray) (t : ByteArray), catW t (a ++ b) = catW (catW t a) b
 | [], b, t => rfl
 | x :: r, b, t => z_b0 r b _
def z_ni : ByteArray := ⟨#[117, 110, 100, 111]⟩
def toT : ByteArray := ⟨#[116, 111]⟩
theorem z_kG (c : Nat) (h : c ≤ 12) (w : World) : Calls Tryz.prog 77 #[.int .i64 c] w fun e w' => e = .returned (.string (z_cR c)) ∧ Below w.heap.size w w' := by
 have HB : Hid (∀ o : Obj, Below w.heap.size w (w.alloc o)) := fun o => (Below.refl _ _).alloc (Nat.le_refl _) o
 have hc : c = 0 ∨ c = 1 ∨ c = 2 ∨ c = 3 ∨ c = 4 ∨ c = 5 ∨ c = 6 ∨ c = 7 ∨ c = 8 ∨ c = 9 ∨ c = 10 ∨ c = 11 ∨ c = 12 := by omega
 rcases hc with rfl | rfl | rfl | rfl | rfl | rfl | rfl | rfl | rfl | rfl | rfl | rfl | rfl
 all_goals
  go_enter Tryz.func77, Tryz.ntmps77
  go_wp2
  go_ret
  exact ⟨rfl, HB.out _⟩
end
section
open Go.RowKit
def toW (c a b : Nat) : List ByteArray := if c = 5 ∨ c = 6 ∨ c = 8 then [toT, decW a, decW b] else if c = 7 ∨ c = 9 then [toT, decW a] else []
def z_iZ (c : Nat) (tt nm : ByteArray) (args : List ByteArray) (undo : ByteArray) (a b : Nat) : List ByteArray := z_ax [tt, nm] ++ args ++ z_co undo ++ toW c a b
def z_cF (c : Nat) (tt nm : ByteArray) (args : List ByteArray) (undo : ByteArray) (a b : Nat) : ByteArray := catW (z_cR c) (z_iZ c tt nm args undo a b)
theorem z_ls {s : ByteArray} (h : s.size = 0) : z_ax [s] = [] := by unfold z_ax; rw [List.filter_cons_of_neg (by simpa using h)]; rfl
theorem z_jZ {s : ByteArray} (h : s.size ≠ 0) : z_ax [s] = [s] := by unfold z_ax; rw [List.filter_cons_of_pos (by simpa using h)]; rfl
theorem z_mQ (s t : ByteArray) : z_ax [s, t] = z_ax [s] ++ z_ax [t] := by
 show z_ax ([s] ++ [t]) = _
 unfold z_ax; rw [List.filter_append]
theorem z_c2 (M : Nat) : ∀ (ws : List ByteArray) (t : ByteArray), (∀ s ∈ ws, s.size ≤ M) → (catW t ws).size ≤ t.size + ws.length * (M + 1)
 | [], t, _ => by simp [catW]
 | x :: r, t, h => by
  have h1 := z_c2 M r (t ++ ⟨#[32]⟩ ++ x) (fun s hs => h s (by simp [hs]))
  have h2 := h x (by simp)
  rw [ByteArray.size_append, ByteArray.size_append] at h1
  have h3 : (⟨#[32]⟩ : ByteArray).size = 1 := rfl
  rw [h3] at h1
  simp only [catW, List.length_cons]
  rw [Nat.succ_mul]; omega
theorem z_gM {M : Nat} {ws : List ByteArray} (h : ∀ s ∈ ws, s.size ≤ M) : ∀ s ∈ z_ax ws, s.size ≤ M := fun s hs => h s (List.mem_filter.1 hs).1
theorem z_gi (c : Nat) : (z_cR c).size ≤ 8 := by
 unfold z_cR
 by_cases h : c < 13
 ·have hc : c = 0 ∨ c = 1 ∨ c = 2 ∨ c = 3 ∨ c = 4 ∨ c = 5 ∨ c = 6 ∨ c = 7 ∨ c = 8 ∨ c = 9 ∨ c = 10 ∨ c = 11 ∨ c = 12 := by omega
  rcases hc with rfl | rfl | rfl | rfl | rfl | rfl | rfl | rfl | rfl | rfl | rfl | rfl | rfl <;> decide
 ·rw [List.getD_eq_getElem?_getD, List.getElem?_eq_none (by simp [codesS]; omega)]; decide
theorem z_cP {W : World} {g o : Nat} {v : Value} (h : W.cell? ⟨g, o, none⟩ = some v) : ∃ x, W.heap[g]? = some x := by
 cases hx : W.heap[g]? with
 | none => simp [World.cell?, hx] at h
 | some x => exact ⟨x, rfl⟩
theorem z_kd (t u : ByteArray) : (t ++ ⟨#[32, 117, 110, 100, 111, 32]⟩) ++ u = catW t [z_ni, u] := by
 simp only [catW, z_ni]
 apply ByteArray.ext
 apply Array.ext'
 simp
theorem z_l4 (t x : ByteArray) : (t ++ ⟨#[32, 116, 111, 32]⟩) ++ x = catW t [toT, x] := by
 simp only [catW, toT]
 apply ByteArray.ext
 apply Array.ext'
 simp
theorem z_no (t x y : ByteArray) : (((t ++ ⟨#[32, 116, 111, 32]⟩) ++ x) ++ ⟨#[32]⟩) ++ y = catW t [toT, x, y] := by
 rw [z_l4]; rfl
theorem z_dM (u : ByteArray) : z_co u = if u.size = 0 then [] else [z_ni, u] := rfl
def TxW (w wx : World) (c a b : Nat) (tt nm undo : ByteArray) (ao : Option Addr) (n cap : Nat) : Prop :=
 Below w.heap.size w wx ∧ wx.cell? ⟨w.heap.size, 0, none⟩ = some (.int .i64 c) ∧ wx.cell? ⟨w.heap.size, 1, none⟩ = some (.string tt) ∧ wx.cell? ⟨w.heap.size, 2, none⟩ = some (.string nm) ∧ wx.cell? ⟨w.heap.size, 3, none⟩ = some (.slice ao n cap) ∧ wx.cell? ⟨w.heap.size, 4, none⟩ = some (.string undo) ∧ wx.cell? ⟨w.heap.size, 5, none⟩ = some (.int .i64 a) ∧ wx.cell? ⟨w.heap.size, 6, none⟩ = some (.int .i64 b)
theorem z_kN (c a b : Nat) (tt nm undo : ByteArray) (args : List ByteArray) (ao : Option Addr) (cap : Nat) (w : World) (hc : c ≤ 12) (ha : a ≤ 1000000000) (hb : b ≤ 1000000000) (h1 : tt.size ≤ 1048576) (h2 : nm.size ≤ 1048576) (h3 : undo.size ≤ 1048576) (h4 : ∀ s ∈ args, s.size ≤ 1048576) (hl : args.length ≤ 1048576) (hi : StrsAt 0 w.heap.size w ao args) :
  Calls Tryz.prog 41 #[.agg #[.int .i64 c, .string tt, .string nm, .slice ao args.length cap, .string undo, .int .i64 a, .int .i64 b]] w fun e w' => e = .returned (.string (z_cF c tt nm args undo a b)) ∧ Below w.heap.size w w' := by
 have HI : Hid (StrsAt 0 w.heap.size w ao args) := hi
 have HZ : Hid (∀ s ∈ args, s.size ≤ 1048576) := h4
 have HCS := z_gi c
 clear hi h4
 go_enter Tryz.func41, Tryz.ntmps41
 go_upto_if 10 with (go_at_call 77; refine (z_kG c hc _).mono ?_; rintro e w2 ⟨rfl, hb2⟩; have HT2 : Hid (TxW w w2 c a b tt nm undo ao args.length cap) := ⟨((Below.refl _ _).alloc (Nat.le_refl _) _).trans (hb2.mono (by simp)), (hb2.cell (p := ⟨w.heap.size, 0, none⟩) (by simp)).trans (by simp), (hb2.cell (p := ⟨w.heap.size, 1, none⟩) (by simp)).trans (by simp), (hb2.cell (p := ⟨w.heap.size, 2, none⟩) (by simp)).trans (by simp), (hb2.cell (p := ⟨w.heap.size, 3, none⟩) (by simp)).trans (by simp), (hb2.cell (p := ⟨w.heap.size, 4, none⟩) (by simp)).trans (by simp), (hb2.cell (p := ⟨w.heap.size, 5, none⟩) (by simp)).trans (by simp), (hb2.cell (p := ⟨w.heap.size, 6, none⟩) (by simp)).trans (by simp)⟩; obtain ⟨_, y0, y1, y2, y3, y4, y5, y6⟩ := HT2.out; clear hb2)
 obtain ⟨K1, hK1⟩ : ∃ K1, K1 = catW (z_cR c) (z_ax [tt]) := ⟨_, rfl⟩
 have HK1 : Hid (K1 = catW (z_cR c) (z_ax [tt])) := hK1
 have hsK1 : K1.size ≤ (z_cR c).size + 1048577 := by
  rw [hK1]
  have := z_c2 1048576 (z_ax [tt]) (z_cR c) (z_gM (fun s hs => by simp at hs; rw [hs]; exact h1))
  have h9 : (z_ax [tt]).length ≤ 1 := List.length_filter_le _ _
  have h8 : (z_ax [tt]).length * 1048577 ≤ 1 * 1048577 := Nat.mul_le_mul_right _ h9
  omega
 clear hK1
 go_cut [3] from 10 to 16 (fun v wx => v = .string K1 ∧ Hid (TxW w wx c a b tt nm undo ao args.length cap))
 case first =>
  by_cases he : tt.size = 0
  ·have hq : (!tt.toList.isEmpty) = false := by rw [z_av]; simpa using he
   have HE : Hid (K1 = (z_cR c)) := by rw [Hid, HK1.out, z_ls he]; rfl
   clear hsK1 he
   rw [hq]
   go_wp2
   go_meet
   case rel => exact ⟨by rw [HE.out] <;> rfl, HT2⟩
  ·have hq : (!tt.toList.isEmpty) = true := by rw [z_av]; simpa using he
   have HE : Hid (K1 = (z_cR c) ++ ⟨#[32]⟩ ++ tt) := by rw [Hid, HK1.out, z_jZ he]; rfl
   have f1 : ¬ 9223372036854775807 < (z_cR c).size + 1 := by omega
   have f2 : ¬ 9223372036854775807 < (z_cR c).size + 1 + tt.size := by omega
   clear hsK1 he
   rw [hq]
   go_wp2
   go_meet
   case rel => exact ⟨by rw [HE.out] <;> rfl, HT2⟩
 case rest =>
  obtain ⟨rfl, HT3⟩ := hcut
  clear HT2 y0 y1 y2 y3 y4 y5 y6
  obtain ⟨_, y0, y1, y2, y3, y4, y5, y6⟩ := HT3.out
  go_upto_if 18 with fail
  obtain ⟨K2, hK2⟩ : ∃ K2, K2 = catW K1 (z_ax [nm]) := ⟨_, rfl⟩
  have HK2 : Hid (K2 = catW K1 (z_ax [nm])) := hK2
  have hsK2 : K2.size ≤ K1.size + 1048577 := by
   rw [hK2]
   have := z_c2 1048576 (z_ax [nm]) K1 (z_gM (fun s hs => by simp at hs; rw [hs]; exact h2))
   have h9 : (z_ax [nm]).length ≤ 1 := List.length_filter_le _ _
   have h8 : (z_ax [nm]).length * 1048577 ≤ 1 * 1048577 := Nat.mul_le_mul_right _ h9
   omega
  clear hK2
  go_cut [3] from 18 to 24 (fun v wx => v = .string K2 ∧ Hid (TxW w wx c a b tt nm undo ao args.length cap))
  case first =>
   by_cases he : nm.size = 0
   ·have hq : (!nm.toList.isEmpty) = false := by rw [z_av]; simpa using he
    have HE : Hid (K2 = K1) := by rw [Hid, HK2.out, z_ls he]; rfl
    clear hsK2 he
    rw [hq]
    go_wp2
    go_meet
    case rel => exact ⟨by rw [HE.out] <;> rfl, HT3⟩
   ·have hq : (!nm.toList.isEmpty) = true := by rw [z_av]; simpa using he
    have HE : Hid (K2 = K1 ++ ⟨#[32]⟩ ++ nm) := by rw [Hid, HK2.out, z_jZ he]; rfl
    have f1 : ¬ 9223372036854775807 < K1.size + 1 := by omega
    have f2 : ¬ 9223372036854775807 < K1.size + 1 + nm.size := by omega
    clear hsK2 he
    rw [hq]
    go_wp2
    go_meet
    case rel => exact ⟨by rw [HE.out] <;> rfl, HT3⟩
  case rest =>
   obtain ⟨rfl, HT4⟩ := hcut
   clear HT3 y0 y1 y2 y3 y4 y5 y6
   obtain ⟨hbw, y0, y1, y2, y3, y4, y5, y6⟩ := HT4.out
   have HI4 : Hid (StrsAt 0 wc.heap.size wc ao args) := HI.out.later hbw
   clear hbw
   have hk2 : K2.size ≤ 3200000 := by omega
   have HCZ : Hid (∀ j, (catW K2 (args.take j)).size ≤ 3200000 + 1048576 * 1048577) := fun j => by
    have h9 := z_c2 1048576 (args.take j) K2 (fun s hs => HZ.out s (List.mem_of_mem_take hs))
    have h8 : (args.take j).length ≤ 1048576 := by rw [List.length_take]; omega
    have h7 : (args.take j).length * 1048577 ≤ 1048576 * 1048577 := Nat.mul_le_mul_right _ h8
    omega
   clear hsK1 hsK2 hk2
   go_wp2_with fail
   go_loop [3, 4] (fun y iv => ∃ (j : Nat) (O : ByteArray), j ≤ args.length ∧ iv = .int .i64 j ∧ y = .string O ∧ Hid (O = catW K2 (args.take j))) (fun _ iv => args.length - (intOf iv).toNat)
   case atStart => exact ⟨0, K2, Nat.zero_le _, rfl, rfl, rfl⟩
   case round =>
    obtain ⟨j, O, hj, rfl, rfl, HO⟩ := hrel
    have hos := HCZ.out j
    rw [← HO.out] at hos
    by_cases hlt : j < args.length
    ·obtain ⟨b', off', rfl, _, hcl⟩ := HI4.out.at j hlt
     have HN : Hid ((O ++ ⟨#[32]⟩) ++ args[j] = catW K2 (args.take (j + 1))) := by
      rw [Hid, List.take_succ_eq_append_getElem hlt, z_b0, ← HO.out]; rfl
     have hsj := HZ.out _ (List.getElem_mem hlt)
     obtain ⟨x, hx⟩ : ∃ x, x = args[j] := ⟨_, rfl⟩
     rw [← hx] at hcl HN hsj
     have f1 : ¬ 9223372036854775807 < O.size + 1 := by omega
     have f2 : ¬ 9223372036854775807 < O.size + 1 + x.size := by omega
     clear hx hos
     go_wp2
     go_round
     case rel => exact ⟨j + 1, _, by omega, by go_num, rfl, HN⟩
     case measure => simp [intOf]; omega
    ·have e : j = args.length := by omega
     subst e
     rw [List.take_length] at HO
     go_upto_if 41 with fail
     obtain ⟨K3, hK3⟩ : ∃ K3, K3 = catW O (z_co undo) := ⟨_, rfl⟩
     have HK3 : Hid (K3 = catW O (z_co undo)) := hK3
     have hs3 : K3.size ≤ O.size + 1048590 := by
      rw [hK3, z_dM]
      split
      ·show O.size ≤ _; omega
      ·rw [← z_kd, ByteArray.size_append, ByteArray.size_append]
       have h9 : (⟨#[32, 117, 110, 100, 111, 32]⟩ : ByteArray).size = 6 := rfl
       omega
     clear hK3
     go_cut [3] from 41 to 47 (fun v wx => v = .string K3 ∧ Hid (TxW w wx c a b tt nm undo ao args.length cap))
     case first =>
      by_cases he : undo.size = 0
      ·have hq : (!undo.toList.isEmpty) = false := by rw [z_av]; simpa using he
       have HE : Hid (K3 = O) := by rw [Hid, HK3.out, z_dM, if_pos he]; rfl
       clear hs3 he
       rw [hq]
       go_wp2
       go_meet
       case rel => exact ⟨by rw [HE.out] <;> rfl, HT4⟩
      ·have hq : (!undo.toList.isEmpty) = true := by rw [z_av]; simpa using he
       have HE : Hid (K3 = (O ++ ⟨#[32, 117, 110, 100, 111, 32]⟩) ++ undo) := by rw [Hid, HK3.out, z_dM, if_neg he, z_kd]
       have f1 : ¬ 9223372036854775807 < O.size + 6 := by omega
       have f2 : ¬ 9223372036854775807 < O.size + 6 + undo.size := by omega
       clear hs3 he
       rw [hq]
       go_wp2
       go_meet
       case rel => exact ⟨by rw [HE.out] <;> rfl, HT4⟩
     case rest =>
      obtain ⟨rfl, HT5⟩ := hcut
      clear HT4 y0 y1 y2 y3 y4 y5 y6
      obtain ⟨hbw, y0, y1, y2, y3, y4, y5, y6⟩ := HT5.out
      have HBW : Hid (Below w.heap.size w wc) := hbw
      have hk3 : K3.size ≤ 2199023255552 := by omega
      have HS3 : Hid (z_cF c tt nm args undo a b = catW K3 (toW c a b)) := by
       rw [Hid, z_cF, z_iZ, z_b0, z_b0, z_b0, z_mQ, z_b0, HK3.out, HO.out, HK2.out, HK1.out]
      clear hbw hos hs3
      have hbx : w.heap.size < wc.heap.size := by obtain ⟨x, hx⟩ := z_cP y0; exact (Array.getElem?_eq_some_iff.1 hx).1
      have sa := z_cc a ha
      have sb := z_cc b hb
      have f1 : ¬ 9223372036854775807 < K3.size + 4 := by omega
      have f2 : ¬ 9223372036854775807 < K3.size + 4 + (decW a).size := by omega
      have f3 : ¬ 9223372036854775807 < K3.size + 4 + (decW a).size + 1 := by omega
      have f4 : ¬ 9223372036854775807 < K3.size + 4 + (decW a).size + 1 + (decW b).size := by omega
      by_cases ht : c = 5 ∨ c = 6 ∨ c = 8
      ·have HR : Hid (z_cF c tt nm args undo a b = (((K3 ++ ⟨#[32, 116, 111, 32]⟩) ++ decW a) ++ ⟨#[32]⟩) ++ decW b) := by rw [Hid, HS3.out, toW, if_pos ht, z_no]
       rcases ht with rfl | rfl | rfl
       all_goals
        go_wp2_with fail
        go_region_held3 (fun wx => wx.cell? ⟨w.heap.size, 5, none⟩ = some (.int .i64 a) ∧ wx.cell? ⟨w.heap.size, 6, none⟩ = some (.int .i64 b))
         (first | (go_keep; done) | exact HZ3.out | exact HZ4.out)
         (first
          | (go_at_call_of 40 a; refine (z_dR a ha _).mono ?_; rintro e w3 ⟨rfl, hb3⟩; have HB3 : Hid (Below w.heap.size w w3) := HBW.out.drew.trans (hb3.mono HBW.out.size); have HZ3 : Hid (w3.cell? ⟨w.heap.size, 5, none⟩ = some (.int .i64 a) ∧ w3.cell? ⟨w.heap.size, 6, none⟩ = some (.int .i64 b)) := ⟨(hb3.cell (p := ⟨w.heap.size, 5, none⟩) hbx).trans y5, (hb3.cell (p := ⟨w.heap.size, 6, none⟩) hbx).trans y6⟩; have HLT : Hid (w.heap.size < w3.heap.size) := Nat.lt_of_lt_of_le hbx hb3.size; clear hb3)
          | (go_at_call_of 40 b; refine (z_dR b hb _).mono ?_; rintro e w4 ⟨rfl, hb4⟩; have HB4 : Hid (Below w.heap.size w w4) := HB3.out.trans (hb4.mono HB3.out.size); have HZ4 : Hid (w4.cell? ⟨w.heap.size, 5, none⟩ = some (.int .i64 a) ∧ w4.cell? ⟨w.heap.size, 6, none⟩ = some (.int .i64 b)) := ⟨(hb4.cell (p := ⟨w.heap.size, 5, none⟩) (by have := HB3.out.size; have := HLT.out; show w.heap.size < _; omega)).trans HZ3.out.1, (hb4.cell (p := ⟨w.heap.size, 6, none⟩) (by have := HB3.out.size; have := HLT.out; show w.heap.size < _; omega)).trans HZ3.out.2⟩; clear hb4))
        go_wp2
        go_ret
        exact ⟨by rw [HR.out] <;> rfl, HB4.out⟩
      ·by_cases ht2 : c = 7 ∨ c = 9
       ·have HR : Hid (z_cF c tt nm args undo a b = (K3 ++ ⟨#[32, 116, 111, 32]⟩) ++ decW a) := by rw [Hid, HS3.out, toW, if_neg ht, if_pos ht2, z_l4]
        rcases ht2 with rfl | rfl
        all_goals
         go_wp2_with fail
         refine (z_dR a ha _).mono ?_
         rintro e w3 ⟨rfl, hb3⟩
         have HB3 : Hid (Below w.heap.size w w3) := HBW.out.trans (hb3.mono HBW.out.size)
         clear hb3
         go_wp2
         go_ret
         exact ⟨by rw [HR.out] <;> rfl, HB3.out⟩
       ·have HR : Hid (z_cF c tt nm args undo a b = K3) := by rw [Hid, HS3.out, toW, if_neg ht, if_neg ht2]; rfl
        have g5 : ((c : Int) == 5) = false := by simp; omega
        have g6 : ((c : Int) == 6) = false := by simp; omega
        have g7 : ((c : Int) == 7) = false := by simp; omega
        have g8 : ((c : Int) == 8) = false := by simp; omega
        have g9 : ((c : Int) == 9) = false := by simp; omega
        go_wp2
        go_ret
        exact ⟨by rw [HR.out] <;> rfl, HBW.out⟩
end
section
open Go.RowKit
def z_hc (s : Stp) : Prop :=
 (∃ c a b : Nat, s.code = c ∧ 1 ≤ c ∧ c ≤ 12 ∧ s.a = a ∧ s.b = b ∧ a ≤ 1000000000 ∧ b ≤ 1000000000) ∧ s.to.size ≤ 1048576 ∧ s.name.size ≤ 1048576 ∧ s.undo.size ≤ 1048576 ∧ s.args.length ≤ 1048576 ∧ ∀ x ∈ s.args, x.size ≤ 1048576
theorem z_mw {k : Int} (h1 : 1 ≤ k) (h2 : k ≤ 15) (h3 : k ≠ 1) (h4 : z_ae k = false) : ∃ c : Nat, z_cg k = c ∧ 1 ≤ c ∧ c ≤ 12 := by
 have hk : k = 2 ∨ k = 3 ∨ k = 4 ∨ k = 5 ∨ k = 6 ∨ k = 7 ∨ k = 8 ∨ k = 9 ∨ k = 10 ∨ k = 11 ∨ k = 12 ∨ k = 13 ∨ k = 14 ∨ k = 15 := by omega
 rcases hk with rfl | rfl | rfl | rfl | rfl | rfl | rfl | rfl | rfl | rfl | rfl | rfl | rfl | rfl
 ·exact ⟨1, rfl, by decide, by decide⟩
 ·exact ⟨2, rfl, by decide, by decide⟩
 ·exact ⟨3, rfl, by decide, by decide⟩
 ·exact ⟨4, rfl, by decide, by decide⟩
 ·exact ⟨5, rfl, by decide, by decide⟩
 ·exact absurd h4 (by decide)
 ·exact ⟨5, rfl, by decide, by decide⟩
 ·exact ⟨8, rfl, by decide, by decide⟩
 ·exact absurd h4 (by decide)
 ·exact absurd h4 (by decide)
 ·exact ⟨10, rfl, by decide, by decide⟩
 ·exact ⟨11, rfl, by decide, by decide⟩
 ·exact ⟨6, rfl, by decide, by decide⟩
 ·exact ⟨12, rfl, by decide, by decide⟩
theorem z_dZ {l : Ln} {a b : Nat} (hz : LnSz l) (h1 : 1 ≤ l.1) (h2 : l.1 ≤ 15) (h3 : l.1 ≠ 1) (h4 : z_ae l.1 = false) (ha : a ≤ 1000000000) (hb : b ≤ 1000000000) : z_hc (z_as l a b) := by
 obtain ⟨c, e, c1, c2⟩ := z_mw h1 h2 h3 h4
 exact ⟨⟨c, a, b, e, c1, c2, rfl, rfl, ha, hb⟩, hz.to, hz.name, hz.undo, hz.len, hz.args⟩
theorem z_eJ {c a : Nat} (h1 : 1 ≤ c) (h2 : c ≤ 12) (ha : a ≤ 1000000000) : z_hc (z_ap c a) :=
 ⟨⟨c, a, 0, rfl, h1, h2, rfl, rfl, ha, by decide⟩, Nat.zero_le _, Nat.zero_le _, Nat.zero_le _, Nat.zero_le _, fun x hx => by simp [z_ap] at hx⟩
theorem z_gl {k : Int} (h : z_am k = true) : k ≠ 1 ∧ z_ae k = false := by
 refine ⟨fun e => ?_, ?_⟩
 ·subst e; revert h; decide
 ·cases hc : z_ae k with
  | false => rfl
  | true => have := z_c hc; rw [h] at this; cases this
theorem z_hP {k : Int} (h : z_aE k = true) : z_am k = true := by unfold z_am; rw [h]; rfl
theorem z_mG (t : Bl) : ∀ (n : Nat), t.wf → (∀ l ∈ t.flat, LnSz l ∧ 1 ≤ l.1 ∧ l.1 ≤ 15) → n + 4 * t.flat.length ≤ 100000000 → ∀ s ∈ z_aM n t, z_hc s := by
 induction t with
 | nil => intro n _ _ _ s hs; simp [z_aM] at hs
 | plain l r ih =>
  intro n hw h hn s hs
  obtain ⟨w1, w2, w3, w4⟩ := hw
  obtain ⟨z, k1, k2⟩ := h l (by simp [Bl.flat])
  simp only [Bl.flat, List.length_cons] at hn
  simp only [z_aM, List.mem_cons] at hs
  rcases hs with rfl | hs
  ·exact z_dZ (a := 0) (b := 0) z k1 k2 w3 w2 (by omega) (by omega)
  ·exact ih _ w4 (fun x hx => h x (by simp [Bl.flat, hx])) (by omega) s hs
 | one l p e r ihp ihr =>
  intro n hw h hn s hs
  obtain ⟨w1, w2, w3, w4, w5⟩ := hw
  obtain ⟨z, k1, k2⟩ := h l (by simp [Bl.flat])
  obtain ⟨k3, k4⟩ := z_gl w1
  have sp := z_aV p w4
  have sr := z_aV r w5
  simp only [Bl.flat, List.length_cons, List.length_append] at hn
  have hp : ∀ x ∈ p.flat, LnSz x ∧ 1 ≤ x.1 ∧ x.1 ≤ 15 := fun x hx => h x (by simp [Bl.flat, hx])
  have hr : ∀ x ∈ r.flat, LnSz x ∧ 1 ≤ x.1 ∧ x.1 ≤ 15 := fun x hx => h x (by simp [Bl.flat, hx])
  simp only [z_aM] at hs
  split at hs
  ·simp only [List.mem_cons, List.mem_append] at hs
   rcases hs with rfl | hs | rfl | hs
   ·exact z_dZ z k1 k2 k3 k4 (by omega) (by omega)
   ·exact ihp _ w4 hp (by omega) s hs
   ·exact z_eJ (c := 7) (by decide) (by decide) (by omega)
   ·exact ihr _ w5 hr (by omega) s hs
  ·simp only [List.mem_cons, List.mem_append] at hs
   rcases hs with rfl | hs | hs
   ·exact z_dZ z k1 k2 k3 k4 (by omega) (by omega)
   ·exact ihp _ w4 hp (by omega) s hs
   ·exact ihr _ w5 hr (by omega) s hs
 | two l p m q e r ihp ihq ihr =>
  intro n hw h hn s hs
  obtain ⟨w1, w2, w3, w4, w5⟩ := hw
  obtain ⟨z, k1, k2⟩ := h l (by simp [Bl.flat])
  have ho : z_am l.1 = true := by
   rcases w1 with ⟨w, _⟩ | ⟨w, _⟩
   ·exact z_hP w
   ·rw [w]; decide
  obtain ⟨k3, k4⟩ := z_gl ho
  have sp := z_aV p w3
  have sq := z_aV q w4
  have sr := z_aV r w5
  simp only [Bl.flat, List.length_cons, List.length_append] at hn
  have hp : ∀ x ∈ p.flat, LnSz x ∧ 1 ≤ x.1 ∧ x.1 ≤ 15 := fun x hx => h x (by simp [Bl.flat, hx])
  have hq : ∀ x ∈ q.flat, LnSz x ∧ 1 ≤ x.1 ∧ x.1 ≤ 15 := fun x hx => h x (by simp [Bl.flat, hx])
  have hr : ∀ x ∈ r.flat, LnSz x ∧ 1 ≤ x.1 ∧ x.1 ≤ 15 := fun x hx => h x (by simp [Bl.flat, hx])
  simp only [z_aM] at hs
  split at hs
  ·simp only [List.mem_cons, List.mem_append] at hs
   rcases hs with rfl | hs | rfl | hs | rfl | hs
   ·exact z_dZ z k1 k2 k3 k4 (by omega) (by omega)
   ·exact ihp _ w3 hp (by omega) s hs
   ·exact z_eJ (c := 9) (by decide) (by decide) (by omega)
   ·exact ihq _ w4 hq (by omega) s hs
   ·exact z_eJ (c := 9) (by decide) (by decide) (by omega)
   ·exact ihr _ w5 hr (by omega) s hs
  ·simp only [List.mem_cons, List.mem_append] at hs
   rcases hs with rfl | hs | rfl | hs | hs
   ·exact z_dZ z k1 k2 k3 k4 (by omega) (by omega)
   ·exact ihp _ w3 hp (by omega) s hs
   ·exact z_eJ (c := 7) (by decide) (by decide) (by omega)
   ·exact ihq _ w4 hq (by omega) s hs
   ·exact ihr _ w5 hr (by omega) s hs
theorem z_l6 {l : Ln} (h : backL l = true) : 1 ≤ l.1 ∧ l.1 ≤ 15 := by
 apply Classical.byContradiction
 intro hn
 have := z_dA l.1 l.2 hn
 rw [backL, this] at h; cases h
theorem z_m0 {ls : List Ln} {ok : Bool} {ss : List Stp} (h : MkL ls ok ss) (hz : ∀ l ∈ ls, LnSz l) : ∀ s ∈ ss, z_hc s := by
 rcases h with ⟨_, _, rfl⟩ | ⟨_, hc, l0, t, e, hw, rfl⟩
 ·intro s hs; simp at hs
 ·rcases hc with ⟨_, h60, hst, _⟩ | ⟨hn, _⟩
  ·have hall := hst.2.1
   rw [e] at hz hall h60
   simp only [List.length_cons] at h60
   exact z_mG t 0 hw (fun l hl => ⟨hz l (by simp [hl]), z_l6 (hall l (by simp [hl]))⟩) (by omega)
  ·exact absurd rfl hn
def z_lh (s : Stp) : ByteArray := z_cF s.code.toNat s.to s.name s.args s.undo s.a.toNat s.b.toNat
def z_jA (j : Nat) (s : Stp) : ByteArray := ((decW j ++ ⟨#[32]⟩) ++ z_lh s) ++ ⟨#[10]⟩
def z_bM (ss : List Stp) : Nat → ByteArray
 | 0 => ⟨#[]⟩
 | j + 1 => z_bM ss j ++ (match ss[j]? with | some s => z_jA j s | none => ⟨#[]⟩)
theorem z_e4 {ss : List Stp} {j : Nat} (h : j < ss.length) : z_bM ss (j + 1) = z_bM ss j ++ z_jA j ss[j] := by
 rw [z_bM, List.getElem?_eq_getElem h]
end
section
open Go.RowKit
theorem z_f4 {c a b : Nat} {tt nm undo : ByteArray} {args : List ByteArray} (ha : a ≤ 1000000000) (hb : b ≤ 1000000000) (h1 : tt.size ≤ 1048576) (h2 : nm.size ≤ 1048576) (h3 : undo.size ≤ 1048576) (h4 : ∀ s ∈ args, s.size ≤ 1048576) (hl : args.length ≤ 1048576) : (z_cF c tt nm args undo a b).size ≤ 1100000000000 := by
 have hw := z_c2 1048576 (z_iZ c tt nm args undo a b) (z_cR c) (fun s hs => by
  unfold z_iZ at hs
  simp only [List.mem_append] at hs
  rcases hs with ((hs | hs) | hs) | hs
  ·exact z_gM (M := 1048576) (ws := [tt, nm]) (fun s hs => by simp at hs; rcases hs with rfl | rfl <;> assumption) s hs
  ·exact h4 s hs
  ·rw [z_dM] at hs
   split at hs
   ·simp at hs
   ·simp only [List.mem_cons, List.not_mem_nil, or_false] at hs
    rcases hs with rfl | rfl
    ·decide
    ·exact h3
  ·have sa := z_cc a ha
   have sb := z_cc b hb
   unfold toW at hs
   split at hs
   ·simp only [List.mem_cons, List.not_mem_nil, or_false] at hs
    rcases hs with rfl | rfl | rfl
    ·decide
    ·omega
    ·omega
   ·split at hs
    ·simp only [List.mem_cons, List.not_mem_nil, or_false] at hs
     rcases hs with rfl | rfl
     ·decide
     ·omega
    ·simp at hs)
 have hlen : (z_iZ c tt nm args undo a b).length ≤ 1048590 := by
  have l1 : (z_ax [tt, nm]).length ≤ 2 := List.length_filter_le _ _
  have l2 : (z_co undo).length ≤ 2 := by rw [z_dM]; split <;> simp
  have l3 : (toW c a b).length ≤ 3 := by unfold toW; split <;> first | simp | (split <;> simp)
  unfold z_iZ
  simp only [List.length_append]
  omega
 have hcs := z_gi c
 have hm : (z_iZ c tt nm args undo a b).length * (1048576 + 1) ≤ 1048590 * (1048576 + 1) := Nat.mul_le_mul_right _ hlen
 unfold z_cF
 omega
theorem z_hK {s : Stp} (h : z_hc s) : ∃ c a b : Nat, s.code = c ∧ c ≤ 12 ∧ 1 ≤ c ∧ s.a = a ∧ s.b = b ∧ a ≤ 1000000000 ∧ b ≤ 1000000000 ∧ z_lh s = z_cF c s.to s.name s.args s.undo a b := by
 obtain ⟨⟨c, a, b, e1, c1, c2, e2, e3, ha, hb⟩, _⟩ := h
 refine ⟨c, a, b, e1, c2, c1, e2, e3, ha, hb, ?_⟩
 unfold z_lh
 rw [e1, e2, e3, Int.toNat_natCast, Int.toNat_natCast, Int.toNat_natCast]
theorem z_ed {s : Stp} (h : z_hc s) : (z_lh s).size ≤ 1100000000000 := by
 obtain ⟨c, a, b, _, _, _, _, _, ha, hb, e⟩ := z_hK h
 rw [e]
 exact z_f4 ha hb h.2.1 h.2.2.1 h.2.2.2.1 h.2.2.2.2.2 h.2.2.2.2.1
theorem z_dr {ss : List Stp} (h : ∀ s ∈ ss, z_hc s) (hl : ss.length ≤ 1000000000) : ∀ j, (z_bM ss j).size ≤ j * 1100000000040
 | 0 => by rw [show (z_bM ss 0).size = 0 from rfl]; exact Nat.zero_le _
 | j + 1 => by
  have ih := z_dr h hl j
  rw [z_bM, ByteArray.size_append]
  cases hj : ss[j]? with
  | none => exact Nat.le_trans ih (Nat.mul_le_mul_right 1100000000040 (Nat.le_succ j))
  | some s =>
   obtain ⟨hjl, e⟩ := List.getElem?_eq_some_iff.1 hj
   have h1 := z_ed (h s (by rw [← e]; exact List.getElem_mem hjl))
   have h2 := z_cc j (by omega)
   have h3 : (z_jA j s).size = (decW j).size + 1 + (z_lh s).size + 1 := by
    unfold z_jA
    rw [ByteArray.size_append, ByteArray.size_append, ByteArray.size_append]; rfl
   show _ + (z_jA j s).size ≤ _
   omega
theorem z_ke (O d s : ByteArray) : (((O ++ d) ++ ⟨#[32]⟩) ++ s) ++ ⟨#[10]⟩ = O ++ (((d ++ ⟨#[32]⟩) ++ s) ++ ⟨#[10]⟩) := by
 apply ByteArray.ext
 apply Array.ext'
 simp
theorem z_hr (ao : Option Addr) (cap : Nat) (ls : List Ln) (w : World) (hcap : ls.length ≤ cap) (hl : ls.length ≤ 1048576) (hi : LinesAt w.heap.size w ao ls) (hz : ∀ l ∈ ls, LnSz l) :
  Calls Tryz.prog 18 #[.slice ao ls.length cap] w fun e w' => ∃ (ok : Bool) (ss : List Stp), e = .returned (.string (z_bM ss ss.length)) ∧ Below w.heap.size w w' ∧ MkL ls ok ss := by
 have HI : Hid (LinesAt w.heap.size w ao ls) := hi
 have HZ : Hid (∀ l ∈ ls, LnSz l) := hz
 clear hi hz
 go_enter Tryz.func18, Tryz.ntmps18
 go_wp2_with fail
 refine (z_gG ao cap ls w hcap hl HI.out HZ.out).mono ?_
 rintro e w1 hmk
 obtain ⟨v1, ok1, ps, base, rfl, hb1, hmk1, hbs1, ho1⟩ := z_h3 hmk
 obtain ⟨so, sc, rfl, hsc, hst⟩ := OwnSt.steps ho1
 have hlen := z_lg hmk1
 rw [List.length_map] at hlen
 have HOK : Hid (∀ s ∈ ps.map (·.1), z_hc s) := z_m0 hmk1 HZ.out
 have HMk : Hid (MkL ls ok1 (ps.map (·.1))) := hmk1
 have HB1 : Hid (Below w.heap.size w w1) := hb1
 obtain ⟨ss, hss⟩ : ∃ ss, ss = ps.map (·.1) := ⟨_, rfl⟩
 have hsl : ps.length = ss.length := by rw [hss, List.length_map]
 rw [← hss] at HOK HMk hst
 have HS : Hid (StepsAt w1.heap.size w1 so ss) := hst
 clear hmk hb1 hmk1 hbs1 ho1 hst hss
 obtain ⟨n, hn⟩ : ∃ n, n = ps.length := ⟨_, rfl⟩
 rw [← hn] at hsc hlen hsl ⊢
 have HSL : Hid (n = ss.length) := hsl
 clear hn hsl
 go_wp2_with fail
 go_loopw [5, 6] (fun y iv wr => ∃ (j : Nat) (O : ByteArray), j ≤ n ∧ iv = .int .i64 j ∧ y = .string O ∧ Hid (O = z_bM ss j) ∧ Hid (Below w1.heap.size w1 wr)) (fun _ iv _ => n - (intOf iv).toNat)
 case atStart => exact ⟨0, ⟨#[]⟩, Nat.zero_le _, rfl, rfl, rfl, Below.refl _ _⟩
 case round =>
  obtain ⟨j, O, hj, rfl, rfl, HO, HB⟩ := hrel
  by_cases hlt : j < n
  ·have hjs : j < ss.length := by rw [← HSL.out]; exact hlt
   obtain ⟨b, off, rfl, hBl, aoA, capA, hcA, q0, q1, q2, q3, q4, q5, q6, hA⟩ := HS.out j hjs
   have hok := HOK.out _ (List.getElem_mem hjs)
   have hos := z_dr HOK.out (by rw [← HSL.out]; omega) j
   rw [← HO.out] at hos
   have hsz := z_ed hok
   obtain ⟨c, xa, xb, e1, hc12, _, e2, e3, hxa, hxb, hsh⟩ := z_hK hok
   have HN : Hid ((((O ++ decW j) ++ ⟨#[32]⟩) ++ z_cF c ss[j].to ss[j].name ss[j].args ss[j].undo xa xb) ++ ⟨#[10]⟩ = z_bM ss (j + 1)) := by
    rw [Hid, z_e4 hjs, z_jA, hsh, z_ke, HO.out]
   rw [hsh] at hsz
   rw [e1] at q0
   rw [e2] at q5
   rw [e3] at q6
   obtain ⟨_, z1, z2, z3, z4, z5⟩ := hok
   obtain ⟨st, hst⟩ : ∃ st, st = ss[j] := ⟨_, rfl⟩
   rw [← hst] at q1 q2 q3 q4 hcA hA z1 z2 z3 z4 z5 HN hsz
   obtain ⟨sc0, tt, nm, args, undo, sa, sb⟩ := st
   simp only at q1 q2 q3 q4 hcA hA z1 z2 z3 z4 z5 HN hsz
   have HC : Hid (∀ w', Below w1.heap.size w1 w' → w'.cell? ⟨b, off + j * 7, none⟩ = some (.int .i64 c) ∧ w'.cell? ⟨b, off + j * 7 + 1, none⟩ = some (.string tt) ∧ w'.cell? ⟨b, off + j * 7 + 2, none⟩ = some (.string nm) ∧ w'.cell? ⟨b, off + j * 7 + 3, none⟩ = some (.slice aoA args.length capA) ∧ w'.cell? ⟨b, off + j * 7 + 4, none⟩ = some (.string undo) ∧ w'.cell? ⟨b, off + j * 7 + 5, none⟩ = some (.int .i64 xa) ∧ w'.cell? ⟨b, off + j * 7 + 6, none⟩ = some (.int .i64 xb)) := fun w' h =>
    ⟨(h.cell (p := ⟨b, _, none⟩) hBl).trans q0, (h.cell (p := ⟨b, _, none⟩) hBl).trans q1, (h.cell (p := ⟨b, _, none⟩) hBl).trans q2, (h.cell (p := ⟨b, _, none⟩) hBl).trans q3, (h.cell (p := ⟨b, _, none⟩) hBl).trans q4, (h.cell (p := ⟨b, _, none⟩) hBl).trans q5, (h.cell (p := ⟨b, _, none⟩) hBl).trans q6⟩
   have HAr : Hid (StrsAt 0 w1.heap.size w1 aoA args) := hA
   have hws := HB.out.size
   have hdj := z_cc j (by omega)
   obtain ⟨y0, y1, y2, y3, y4, y5, y6⟩ := HC.out wr HB.out
   obtain ⟨X, hX⟩ : ∃ X, X = z_cF c tt nm args undo xa xb := ⟨_, rfl⟩
   have HX : Hid (X = z_cF c tt nm args undo xa xb) := hX
   rw [← hX] at HN hsz
   have f1 : ¬ 9223372036854775807 < O.size + (decW j).size := by omega
   have f2 : ¬ 9223372036854775807 < O.size + (decW j).size + 1 := by omega
   have f3 : ¬ 9223372036854775807 < O.size + (decW j).size + 1 + X.size := by omega
   have f4 : ¬ 9223372036854775807 < O.size + (decW j).size + 1 + X.size + 1 := by omega
   have i1 : (0 : Int) ≤ (j : Int) := by omega
   have i2 : (j : Int) < (n : Int) := by omega
   clear q0 q1 q2 q3 q4 q5 q6 hA hst hX e1 e2 e3 hsh hos
   go_wp2_with fail
   go_region_held3 (fun wx => wx.cell? ⟨b, off + j * 7, none⟩ = some (.int .i64 c) ∧ wx.cell? ⟨b, off + j * 7 + 1, none⟩ = some (.string tt) ∧ wx.cell? ⟨b, off + j * 7 + 2, none⟩ = some (.string nm) ∧ wx.cell? ⟨b, off + j * 7 + 3, none⟩ = some (.slice aoA args.length capA) ∧ wx.cell? ⟨b, off + j * 7 + 4, none⟩ = some (.string undo) ∧ wx.cell? ⟨b, off + j * 7 + 5, none⟩ = some (.int .i64 xa) ∧ wx.cell? ⟨b, off + j * 7 + 6, none⟩ = some (.int .i64 xb))
    (first | (go_keep; done) | exact HC.out _ HB2.out | exact HC.out _ HB3.out)
    (first
     | (go_at_call 40; refine (z_dR j (by omega) _).mono ?_; rintro e w2 ⟨rfl, hb2⟩; have HB2 : Hid (Below w1.heap.size w1 w2) := HB.out.drew.trans (hb2.mono hws); clear hb2)
     | (go_at_call 41; refine (z_kN c xa xb tt nm undo args aoA capA _ hc12 hxa hxb z1 z2 z3 z5 z4 (HAr.out.later HB2.out)).mono ?_; rintro e w3 ⟨rfl, hb3⟩; rw [← HX.out]; have HB3 : Hid (Below w1.heap.size w1 w3) := HB2.out.trans (hb3.mono HB2.out.size); clear hb3))
   go_wp2
   go_roundw
   case rel => exact ⟨j + 1, _, by omega, by go_num, rfl, HN, HB3⟩
   case measure => simp [intOf]; omega
  ·have e : j = n := by omega
   subst e
   go_wp2
   go_ret
   exact ⟨ok1, ss, by rw [HO.out, HSL.out] <;> rfl, HB1.out.trans (HB.out.mono HB1.out.size), HMk.out⟩
end
section
open Go.RowKit
theorem z_e6 (n : Nat) : (⟨(Lib.itoa (n : Int)).toArray⟩ : ByteArray) = decW n := by unfold decW; rw [Lib.itoa_nonneg]
theorem z_hL : ∀ (r : List ByteArray) (t : ByteArray), catW t r = ⟨(t.data.toList ++ Lib.joinTail [32] (r.map (·.data.toList))).toArray⟩
 | [], t => by simp [catW, Lib.joinTail]
 | x :: r, t => by
  rw [catW, z_hL r]
  simp [Lib.joinTail, List.append_assoc]
theorem z_la (t : ByteArray) (r : List ByteArray) : z_ca (t :: r) = catW t r := by
 rw [z_hL, z_ca, List.map_cons, Lib.join_cons]
def z_mv (c : Nat) : Prop := c = 5 ∨ c = 6 ∨ c = 8
def z_mR (c : Nat) : Prop := c = 7 ∨ c = 9
def z_ia (c : Nat) : Nat := if z_mv c then 166 else if z_mR c then 167 else 164
def z_iL (c : Nat) : Value := if z_mv c then .agg #[.string (z_cR c)] else if z_mR c then .agg #[.string (z_cR c)] else .string (z_cR c)
theorem X.wordP (s : Value) (w : World) : (Go.method 379 164 s "loop.example/dunserv/impl.word").run Tryz.prog w = .ok (245, s) w := by kernel_rfl
theorem X.wordJ (s : Value) (w : World) : (Go.method 379 167 (.agg #[s]) "loop.example/dunserv/impl.word").run Tryz.prog w = .ok (245, s) w := by kernel_rfl
theorem X.wordQ (s : Value) (w : World) : (Go.method 379 166 (.agg #[s]) "loop.example/dunserv/impl.word").run Tryz.prog w = .ok (245, s) w := by kernel_rfl
theorem X.placesJ (s : Value) (w : World) : (Go.method 379 167 (.agg #[s]) "loop.example/dunserv/impl.places").run Tryz.prog w = .ok (247, .agg #[s]) w := by kernel_rfl
theorem X.placesQ (s : Value) (w : World) : (Go.method 379 166 (.agg #[s]) "loop.example/dunserv/impl.places").run Tryz.prog w = .ok (246, .agg #[s]) w := by kernel_rfl
theorem X.leadP (v : Value) (xT : TypeId) (w : World) : (Instr.typeAssert (.iface 164 v) xT 116 true).run Tryz.prog w = .ok (.tuple #[.nilIface, .bool false]) w := run_typeAssert_lacksB Tryz.underlying116 (by kernel_rfl) (by kernel_rfl) v xT w
theorem X.leadJ (v : Value) (xT : TypeId) (w : World) : (Instr.typeAssert (.iface 167 v) xT 116 true).run Tryz.prog w = .ok (.tuple #[.iface 167 v, .bool true]) w := run_typeAssert_hasB Tryz.underlying116 (by kernel_rfl) v xT w
theorem X.leadQ (v : Value) (xT : TypeId) (w : World) : (Instr.typeAssert (.iface 166 v) xT 116 true).run Tryz.prog w = .ok (.tuple #[.iface 166 v, .bool true]) w := run_typeAssert_hasB Tryz.underlying116 (by kernel_rfl) v xT w
theorem z_lq (c : Nat) (w : World) : (Go.method 379 (z_ia c) (z_iL c) "loop.example/dunserv/impl.word").run Tryz.prog w = .ok (245, .string (z_cR c)) w := by
 unfold z_ia z_iL
 by_cases h : z_mv c
 ·rw [if_pos h, if_pos h]; exact X.wordQ _ w
 ·rw [if_neg h, if_neg h]
  by_cases h2 : z_mR c
  ·rw [if_pos h2, if_pos h2]; exact X.wordJ _ w
  ·rw [if_neg h2, if_neg h2]; exact X.wordP _ w
theorem z_mC (s : ByteArray) (w : World) : Calls Tryz.prog 245 #[.string s] w fun e w' => e = .returned (.string s) ∧ w' = w := by
 go_enter Tryz.func245, Tryz.ntmps245
 go_wp2
 go_ret
 exact ⟨rfl, rfl⟩
theorem z_fZ (c : Nat) (h0 : 1 ≤ c) (h : c ≤ 12) (w : World) : Calls Tryz.prog 80 #[.int .i64 c] w fun e w' => e = .returned (.iface (z_ia c) (z_iL c)) ∧ w' = w := by
 have hc : c = 1 ∨ c = 2 ∨ c = 3 ∨ c = 4 ∨ c = 5 ∨ c = 6 ∨ c = 7 ∨ c = 8 ∨ c = 9 ∨ c = 10 ∨ c = 11 ∨ c = 12 := by omega
 rcases hc with rfl | rfl | rfl | rfl | rfl | rfl | rfl | rfl | rfl | rfl | rfl | rfl
 all_goals
  go_enter Tryz.func80, Tryz.ntmps80
  go_wp2
  go_ret
  exact ⟨rfl, rfl⟩
theorem z_jd (k : ByteArray) (c tt nm ar un b : Value) (a : Nat) (w : World) : Calls Tryz.prog 247 #[.agg #[.string k], .agg #[c, tt, nm, ar, un, .int .i64 a, b]] w fun e w' => ∃ g, e = .returned (.slice (some ⟨g, 0, none⟩) 1 1) ∧ Below w.heap.size w w' ∧ w.heap.size ≤ g ∧ g < w'.heap.size ∧ w'.cell? ⟨g, 0, none⟩ = some (.int .i64 a) := by
 go_enter Tryz.func247, Tryz.ntmps247
 go_wp2
 go_ret
 exact ⟨_, rfl, (((Below.refl _ _).alloc (Nat.le_refl _) _).alloc (by first | omega | (simp [go_sem]; done) | (simp; done) | (simp; omega) | assumption) _).alloc (by first | omega | (simp [go_sem]; done) | (simp; done) | (simp; omega) | assumption) _, (by first | omega | (simp [go_sem]; done) | (simp; done) | (simp; omega) | assumption), (by first | omega | (simp [go_sem]; done) | (simp; done) | (simp; omega) | assumption), (by first | omega | (simp [go_sem]; done) | (simp; done) | (simp; omega) | assumption)⟩
theorem z_jM (k : ByteArray) (c tt nm ar un : Value) (a b : Nat) (w : World) : Calls Tryz.prog 246 #[.agg #[.string k], .agg #[c, tt, nm, ar, un, .int .i64 a, .int .i64 b]] w fun e w' => ∃ g, e = .returned (.slice (some ⟨g, 0, none⟩) 2 2) ∧ Below w.heap.size w w' ∧ w.heap.size ≤ g ∧ g < w'.heap.size ∧ w'.cell? ⟨g, 0, none⟩ = some (.int .i64 a) ∧ w'.cell? ⟨g, 1, none⟩ = some (.int .i64 b) := by
 go_enter Tryz.func246, Tryz.ntmps246
 go_wp2
 go_ret
 exact ⟨_, rfl, (((Below.refl _ _).alloc (Nat.le_refl _) _).alloc (by first | omega | (simp [go_sem]; done) | (simp; done) | (simp; omega) | assumption) _).alloc (by first | omega | (simp [go_sem]; done) | (simp; done) | (simp; omega) | assumption) _, (by first | omega | (simp [go_sem]; done) | (simp; done) | (simp; omega) | assumption), (by first | omega | (simp [go_sem]; done) | (simp; done) | (simp; omega) | assumption), (by first | omega | (simp [go_sem]; done) | (simp; done) | (simp; omega) | assumption), (by first | omega | (simp [go_sem]; done) | (simp; done) | (simp; omega) | assumption)⟩
end
end Go.Proofs.YtlbjjbolbopfmaaGreatDoor
