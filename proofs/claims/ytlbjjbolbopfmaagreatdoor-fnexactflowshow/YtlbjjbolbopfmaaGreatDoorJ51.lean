import Derived.Test.YtlbjjbolbopfmaaGreatDoorJ27
import Derived.Test.YtlbjjbolbopfmaaGreatDoorJ50
import Derived.Deep.RegionHeld3
import Derived.Test.YtlbjjbolbopfmaaGreatDoorJ49
import Derived.Test.YtlbjjbolbopfmaaGreatDoorJ06
import Derived.Test.YtlbjjbolbopfmaaGreatDoorJ23
namespace Go.Proofs.YtlbjjbolbopfmaaGreatDoor
set_option maxHeartbeats 8000000
set_option maxRecDepth 1000000
set_option linter.unusedVariables false
section
open Go.RowKit
theorem z_lV (w : World) (L T : Obj) : ((w.alloc L).alloc T).heap[w.heap.size]? = some L := (heap_alloc_old (w.alloc L) T (by simp)).trans (heap_alloc_new w L)
theorem z_m (w : World) (L T : Obj) (n : Nat) (h : n = w.heap.size + 1) : ((w.alloc L).alloc T).heap[n]? = some T := by
 have h2 := heap_alloc_new (w.alloc L) T
 rw [show (w.alloc L).heap.size = n by rw [h]; simp] at h2
 exact h2
theorem z_gw (base gl gt : Nat) (K tt nm : ByteArray) (W : World) (hL : W.heap[gl]? = some (.cells #[.string K] 9 (0, 0))) (hT : W.heap[gt]? = some (.cells #[.string tt, .string nm] 9 (0, 0))) (hne : gl ≠ gt) (hb : base ≤ gl) :
  Calls Tryz.prog 81 #[.slice (some ⟨gl, 0, none⟩) 1 1, .slice (some ⟨gt, 0, none⟩) 2 2] W fun e w' => ∃ v', e = .returned v' ∧ Below base W w' ∧ w'.ownsRow base 9 1 v' ([K] ++ z_ay [tt, nm]).length (strCells ([K] ++ z_ay [tt, nm])) :=
 z_dE base gt 2 _ [K] [tt, nm] W (z_gD hL hb) (by have := (Array.getElem?_eq_some_iff.1 hL).1; omega)
  (fun k h => by
   match k, h with
   | 0, _ => simp [World.cell?, hT]
   | 1, _ => simp [World.cell?, hT])
  (Array.getElem?_eq_some_iff.1 hT).1 (by simp [Value.ownBlock, hne]) (by simp) (Nat.le_refl _)
theorem z_n3 {base g cap' g' W : Nat} {u : Value} {row : Option Nat} {A : List ByteArray} {x : ByteArray} {n : Nat} {uu : Nat → Value} {w wr w3 : World} {t : TypeId} (ho : wr.ownsRow base 9 1 u A.length (strCells A)) (hb : Below base w wr)
  (hne : u.ownBlock ≠ some g) (hm : ∀ k, k < n → wr.cell? ⟨g, k, none⟩ = some (uu k)) (hws : W ≤ wr.heap.size) (hg : g < W) (hbase : base ≤ wr.heap.size)
  (hown : w3.ownsRow base 9 1 (.slice (some ⟨g', 0, none⟩) (A.length + 1) cap') (A.length + 1) (strCells A ++ [.string x])) (hgrow0 : (wr.alloc (.cells #[.string x] t)).grownBy w3 row)
  (hat0 : row = some g' ∨ g' = wr.heap.size + 1) (hrow : row = u.ownBlock) :
  Aside (w3.ownsRow base 9 1 (.slice (some ⟨g', 0, none⟩) (A.length + 1) cap') (A ++ [x]).length (strCells (A ++ [x])) ∧ Below base w w3 ∧ W ≤ w3.heap.size ∧ (Value.slice (some ⟨g', 0, none⟩) (A.length + 1) cap').ownBlock ≠ some g ∧ (∀ k, k < n → w3.cell? ⟨g, k, none⟩ = some (uu k))) := by
 rw [hrow] at hgrow0 hat0
 have hgrow := hgrow0
 have hat := hat0
 have hbw3 : Below base w w3 := Below.grown (hb.alloc (by omega) _) hgrow (by simp; omega) (fun j hj => by have := (ho.lt _ hj).1; omega)
 refine ⟨by simpa [strCells] using hown, hbw3, ?_, ?_, ?_⟩
 ·have := hgrow.size; simp at this; omega
 ·intro h
  have h2 : g' = g := by simpa [Value.ownBlock] using h
  rcases hat with h3 | h3
  ·exact hne (by rw [h3, h2])
  ·omega
 ·intro j hj
  rw [hgrow.cell_far ⟨g, j, none⟩ (by simp; omega) (fun h => hne h.symm), Below.cell (p := ⟨g, j, none⟩) ((Below.refl _ _).alloc (Nat.le_refl _) _) (by show g < _; omega)]
  exact hm j hj
theorem z_h4 (c a b : Nat) (tt nm undo : ByteArray) (args : List ByteArray) (ao : Option Addr) (cap : Nat) (w : World) (hc0 : 1 ≤ c) (hc : c ≤ 12) (ha : a ≤ 1000000000) (hb : b ≤ 1000000000) (h1 : tt.size ≤ 1048576) (h2 : nm.size ≤ 1048576) (h3 : undo.size ≤ 1048576) (h4 : ∀ s ∈ args, s.size ≤ 1048576) (hl : args.length ≤ 1048576) (hcap : args.length ≤ cap) (hi : StrsAt 0 w.heap.size w ao args) (he : Env w) :
  Calls Tryz.prog 45 #[.agg #[.int .i64 c, .string tt, .string nm, .slice ao args.length cap, .string undo, .int .i64 a, .int .i64 b]] w fun e w' => e = .returned (.string (z_cG c tt nm args undo a b)) ∧ Below w.heap.size w w' := by
 obtain ⟨i0, hi0, hz0, hz1, hz2⟩ := info_parts Tryz.infoStr
 have HI : Hid (StrsAt 0 w.heap.size w ao args) := hi
 have HZ : Hid (∀ s ∈ args, s.size ≤ 1048576) := h4
 have HE : Hid (Env w) := he
 have kw := z_lk c
 clear hi h4 he
 go_enter Tryz.func45, Tryz.ntmps45
 go_wp2_with fail
 refine (z_fK c hc0 hc _).mono ?_
 rintro e w2 ⟨rfl, hw2⟩
 have HT2 : Hid (TxW w w2 c a b tt nm undo ao args.length cap) := by
  rw [hw2]
  exact ⟨(Below.refl _ _).alloc (Nat.le_refl _) _, by simp, by simp, by simp, by simp, by simp, by simp, by simp⟩
 have HS2 : Hid (w2.heap.size = w.heap.size + 1) := by rw [Hid, hw2]; simp
 clear hw2
 obtain ⟨kt, hkt⟩ : ∃ t, t = z_hV c := ⟨_, rfl⟩
 obtain ⟨kv, hkv⟩ : ∃ t, t = z_iS c := ⟨_, rfl⟩
 rw [← hkt, ← hkv] at kw ⊢
 have HKT : Hid (kt = z_hV c) := hkt
 have HKV : Hid (kv = z_iS c) := hkv
 clear hkt hkv
 obtain ⟨K, hK⟩ : ∃ K, K = z_cT c := ⟨_, rfl⟩
 rw [← hK] at kw
 have HK : Hid (K = z_cT c) := hK
 clear hK
 obtain ⟨_, y0, y1, y2, y3, y4, y5, y6⟩ := HT2.out
 have hbx : w.heap.size < w2.heap.size := by rw [HS2.out]; omega
 obtain ⟨A, hA⟩ : ∃ A, A = [K] ++ z_ay [tt, nm] := ⟨_, rfl⟩
 have HN : Hid (z_cG c tt nm args undo a b = z_cc (A ++ args ++ z_cn undo ++ toW c a b)) := by
  rw [Hid, z_cG, ← z_lU, z_iP, hA, HK.out]
  simp only [List.append_assoc, List.cons_append, List.nil_append]
 have hAl : A.length ≤ 3 := by rw [hA]; have := z_hv [tt, nm]; simp at this ⊢; omega
 have hA0 : 0 < A.length := by rw [hA]; simp
 have HA : Hid (A = [K] ++ z_ay [tt, nm]) := hA
 clear hA
 go_upto_region 2 with fail
 go_cut [4] from 12 to 20 (fun v wx => Hid (TxW w wx c a b tt nm undo ao args.length cap) ∧ Hid (wx.ownsRow (w.heap.size + 1) 9 1 v A.length (strCells A)))
 case first =>
  go_region_held3 (fun wx => wx.cell? ⟨w.heap.size, 1, none⟩ = some (.string tt) ∧ wx.cell? ⟨w.heap.size, 2, none⟩ = some (.string nm))
   (first | (go_keep; done) | exact HY3.out)
   (first
    | (go_at_call 245; refine (z_mV _ _).mono ?_; rintro e w' ⟨rfl, rfl⟩)
    | (go_at_call 81; go_loud (refine Calls.mono (z_gw w2.heap.size _ _ K tt nm _ ?_ ?_ ?_ ?_) ?_; (first | exact z_lV w2 _ _ | exact z_m w2 _ _ _ rfl); (first | exact z_lV w2 _ _ | exact z_m w2 _ _ _ rfl); omega; omega; rintro e w3 ⟨v3, rfl, hb3, hown3⟩; have X3 : Aside (Below w2.heap.size w2 w3 ∧ w3.ownsRow w2.heap.size 9 1 v3 ([K] ++ z_ay [tt, nm]).length (strCells ([K] ++ z_ay [tt, nm]))) := ⟨(((Below.refl _ _).alloc (Nat.le_refl _) _).alloc (by simp) _).drew.trans hb3, hown3⟩; have HY3 : Hid (w3.cell? ⟨w.heap.size, 1, none⟩ = some (.string tt) ∧ w3.cell? ⟨w.heap.size, 2, none⟩ = some (.string nm)) := ⟨(X3.out.1.cell (p := ⟨w.heap.size, 1, none⟩) hbx).trans y1, (X3.out.1.cell (p := ⟨w.heap.size, 2, none⟩) hbx).trans y2⟩; clear hb3 hown3)))
  all_goals
   obtain ⟨hb3, hown3⟩ := X3.out
   clear X3 HY3
   have HT3 : Hid (TxW w w3 c a b tt nm undo ao args.length cap) := ⟨HT2.out.1.trans (hb3.mono (Nat.le_of_lt hbx)), (hb3.cell (p := ⟨w.heap.size, 0, none⟩) hbx).trans y0, (hb3.cell (p := ⟨w.heap.size, 1, none⟩) hbx).trans y1, (hb3.cell (p := ⟨w.heap.size, 2, none⟩) hbx).trans y2, (hb3.cell (p := ⟨w.heap.size, 3, none⟩) hbx).trans y3, (hb3.cell (p := ⟨w.heap.size, 4, none⟩) hbx).trans y4, (hb3.cell (p := ⟨w.heap.size, 5, none⟩) hbx).trans y5, (hb3.cell (p := ⟨w.heap.size, 6, none⟩) hbx).trans y6⟩
   rw [HS2.out, ← HA.out] at hown3
   have HO3 : Hid (w3.ownsRow (w.heap.size + 1) 9 1 v3 A.length (strCells A)) := hown3
   clear hb3 y0 y1 y2 y3 y4 y5 y6 HT2 hbx hown3
   go_wp2_with fail
   go_meet
   case rel => exact ⟨HT3, HO3⟩
 case rest =>
  obtain ⟨w3, hw3⟩ : ∃ w3, w3 = wc := ⟨_, rfl⟩
  subst hw3
  obtain ⟨HT3, HO3⟩ := hcut
  clear HT2 HS2 HA y0 y1 y2 y3 y4 y5 y6 hbx
  obtain ⟨g3, c3, rfl, hg3, hlt3⟩ := HO3.out.form hA0
  have hcA := z_bR HO3.out
  obtain ⟨_, y0, y1, y2, y3, y4, y5, y6⟩ := HT3.out
  have hw3 : w.heap.size + 1 ≤ w3.heap.size := by obtain ⟨x, hx⟩ := z_cN y0; exact (Array.getElem?_eq_some_iff.1 hx).1
  go_upto_region 3 with fail
  go_cut [4] from 21 to 24 (fun v wx => Hid (TxW w wx c a b tt nm undo ao args.length cap) ∧ Hid (wx.ownsRow (w.heap.size + 1) 9 1 v (A ++ args).length (strCells (A ++ args))))
  case first =>
   cases ao with
   | none =>
    have e0 : args = [] := by
     cases args with
     | nil => rfl
     | cons x r => obtain ⟨_, _, e, _⟩ := HI.out 0 (by simp); cases e
    subst e0
    go_wp2
    go_meet
    case rel => exact ⟨HT3, by simpa [Hid] using HO3.out⟩
   | some ad =>
    have HCA : Hid (∀ j u, (strCells args)[j]? = some u → w3.cell? (ad.add j) = some u) := by
     cases args with
     | nil => intro j u hj; simp [strCells] at hj
     | cons x r =>
      obtain ⟨b0, off0, e, _⟩ := HI.out 0 (by simp)
      cases e
      exact z_b0 (HI.out.below HT3.out.1)
    go_wp2_with (at_builtin; go_loud (refine wpList_append_own _ rfl _ _ 45 rfl (w.heap.size + 1) 9 i0 (.string ByteArray.empty) 1 16 Tryz.underlying45 hi0 hz0 hz1 hz2 rfl (by decide) _ _ _ rfl HO3.out ad args.length cap (strCells args) rfl (by simp [strCells]) HCA.out (by intro u hu; simp [strCells] at hu; obtain ⟨a, _, rfl⟩ := hu; rfl) (by unfold maxLen; first | omega | (simp; omega)) (by first | omega | (simp; omega)) (by omega) ?_; intro v4 w4 hown4 hgrow4 _; have hb4 := z_b8 HO3.out (Below.refl _ _) (Below.refl _ _) (by omega) hgrow4 (by rfl); have HO4 : Hid (w4.ownsRow (w.heap.size + 1) 9 1 v4 (A ++ args).length (strCells (A ++ args))) := (by simpa [strCells, Hid] using hown4); have HT4 : Hid (TxW w w4 c a b tt nm undo (some ad) args.length cap) := ⟨HT3.out.1.trans (hb4.mono (by omega)), (hb4.cell (p := ⟨w.heap.size, 0, none⟩) (by simp)).trans y0, (hb4.cell (p := ⟨w.heap.size, 1, none⟩) (by simp)).trans y1, (hb4.cell (p := ⟨w.heap.size, 2, none⟩) (by simp)).trans y2, (hb4.cell (p := ⟨w.heap.size, 3, none⟩) (by simp)).trans y3, (hb4.cell (p := ⟨w.heap.size, 4, none⟩) (by simp)).trans y4, (hb4.cell (p := ⟨w.heap.size, 5, none⟩) (by simp)).trans y5, (hb4.cell (p := ⟨w.heap.size, 6, none⟩) (by simp)).trans y6⟩; clear hown4 hgrow4 hb4))
    go_meet
    case rel => exact ⟨HT4, HO4⟩
  case rest =>
   obtain ⟨HT4, HO4⟩ := hcut
   clear HT3 HO3 y0 y1 y2 y3 y4 y5 y6 hcA hg3 hlt3 hw3
   obtain ⟨_, y0, y1, y2, y3, y4, y5, y6⟩ := HT4.out
   have hbx : w.heap.size < wc.heap.size := by obtain ⟨x, hx⟩ := z_cN y0; exact (Array.getElem?_eq_some_iff.1 hx).1
   go_wp2_with fail
   refine (z_bL (w.heap.size + 1) _ (A ++ args) undo _ HO4.out (by omega) (by simp; omega)).mono ?_
   rintro e w5 ⟨v5, rfl, hb5, hown5⟩
   have HT5 : Hid (TxW w w5 c a b tt nm undo ao args.length cap) := ⟨HT4.out.1.trans (hb5.mono (by omega)), (hb5.cell (p := ⟨w.heap.size, 0, none⟩) (by simp)).trans y0, (hb5.cell (p := ⟨w.heap.size, 1, none⟩) (by simp)).trans y1, (hb5.cell (p := ⟨w.heap.size, 2, none⟩) (by simp)).trans y2, (hb5.cell (p := ⟨w.heap.size, 3, none⟩) (by simp)).trans y3, (hb5.cell (p := ⟨w.heap.size, 4, none⟩) (by simp)).trans y4, (hb5.cell (p := ⟨w.heap.size, 5, none⟩) (by simp)).trans y5, (hb5.cell (p := ⟨w.heap.size, 6, none⟩) (by simp)).trans y6⟩
   have hw5 : w.heap.size + 1 ≤ w5.heap.size := Nat.le_trans hbx hb5.size
   obtain ⟨B, hB⟩ : ∃ B, B = A ++ args ++ z_cn undo := ⟨_, rfl⟩
   rw [← hB] at hown5
   have HO5 : Hid (w5.ownsRow (w.heap.size + 1) 9 1 v5 B.length (strCells B)) := hown5
   rw [← hB] at HN
   have hBl : B.length ≤ 1048582 := by rw [hB]; have := z_he undo; simp only [List.length_append]; omega
   have hB0 : 0 < B.length := by rw [hB]; simp only [List.length_append]; omega
   clear hb5 hown5 HT4 HO4 y0 y1 y2 y3 y4 y5 y6 hbx hB
   have HJ : Hid ((Lib.join ((B ++ toW c a b).map (·.data.toList)) [32]).length ≤ 140737488355328) := by
    have h9 := z_gl (c := c) ha hb h1 h2 h3 HZ.out hl
    rw [HN.out] at h9
    have e9 : (z_cc (B ++ toW c a b)).size = (Lib.join ((B ++ toW c a b).map (·.data.toList)) [32]).length := by
     show (List.toArray _).size = _
     simp
    rw [Hid]; omega
   obtain ⟨g5, c5, rfl, hg5, hlt5⟩ := HO5.out.form hB0
   have hc5 := z_bR HO5.out
   by_cases hp : z_mG c
   ·
    have ek : kt = 166 := by rw [HKT.out, z_hV, if_pos hp]
    have ev : kv = .agg #[.string K] := by rw [HKV.out, z_iS, if_pos hp, HK.out]
    have eT : toW c a b = [toT, decW a, decW b] := by unfold toW; exact if_pos (show c = 5 ∨ c = 6 ∨ c = 8 from hp)
    rw [eT] at HJ HN
    have tA := X.leadQ
    have mP := X.placesQ
    subst ek
    subst ev
    clear HKT HKV kw
    obtain ⟨_, y0, y1, y2, y3, y4, y5, y6⟩ := HT5.out
    obtain ⟨P, hP⟩ : ∃ P, P = [a, b] := ⟨_, rfl⟩
    have HP : Hid (P = [a, b]) := hP
    have hP2 : P.length = 2 := by rw [hP]; rfl
    have HP9 : Hid (∀ x ∈ P, x ≤ 1000000000) := by rw [Hid, hP]; intro x hx; simp at hx; omega
    clear hP
    go_wp2_with (at_builtin; go_loud (refine wpList_append_own _ rfl _ _ 45 rfl (w.heap.size + 1) 9 i0 (.string ByteArray.empty) 1 16 Tryz.underlying45 hi0 hz0 hz1 hz2 rfl (by decide) _ _ _ rfl (HO5.out.alloc _) ⟨w5.heap.size, 0, none⟩ 1 1 [.string toT] rfl rfl (cell_one_new _ _ _) (fun u hu => by simp at hu; subst hu; rfl) (by unfold maxLen; omega) (by omega) (by simp; omega) ?_; intro v7 w7 hown7 hgrow7 _; have hb7 := z_b8 HO5.out (Below.refl _ _) ((Below.refl _ _).alloc (Nat.le_refl _) _) (by omega) hgrow7 (by rfl); have HO7 : Hid (w7.ownsRow (w.heap.size + 1) 9 1 v7 (B ++ [toT]).length (strCells (B ++ [toT]))) := (by simpa [strCells, Hid] using hown7); have HT7 : Hid (TxW w w7 c a b tt nm undo ao args.length cap) := ⟨HT5.out.1.trans (hb7.mono (by omega)), (hb7.cell (p := ⟨w.heap.size, 0, none⟩) (by simp)).trans y0, (hb7.cell (p := ⟨w.heap.size, 1, none⟩) (by simp)).trans y1, (hb7.cell (p := ⟨w.heap.size, 2, none⟩) (by simp)).trans y2, (hb7.cell (p := ⟨w.heap.size, 3, none⟩) (by simp)).trans y3, (hb7.cell (p := ⟨w.heap.size, 4, none⟩) (by simp)).trans y4, (hb7.cell (p := ⟨w.heap.size, 5, none⟩) (by simp)).trans y5, (hb7.cell (p := ⟨w.heap.size, 6, none⟩) (by simp)).trans y6⟩; have hw7 : w.heap.size + 1 ≤ w7.heap.size := (by have := hb7.size; omega); obtain ⟨_, z0, z1, z2, z3, z4, z5, z6⟩ := HT7.out; clear hown7 hgrow7 hb7 y0 y1 y2 y3 y4 y5 y6))
    refine (z_ja _ _ _ _ _ _ a b _).mono ?_
    rintro e w8 ⟨g, rfl, hb8, hg0, hg1, hq0, hq1⟩
    obtain ⟨g7, c7, rfl, hg7, hlt7⟩ := HO7.out.form (by simp)
    have HNE : Hid ((Value.slice (some ⟨g7, 0, none⟩) (B ++ [toT]).length c7).ownBlock ≠ some g) := by simp [Hid, Value.ownBlock]; omega
    have HO8 : Hid (w8.ownsRow (w.heap.size + 1) 9 1 (.slice (some ⟨g7, 0, none⟩) (B ++ [toT]).length c7) (B ++ [toT]).length (strCells (B ++ [toT]))) := z_ax HO7.out hb8
    have HB8 : Hid (Below w.heap.size w w8) := HT7.out.1.trans (hb8.mono HT7.out.1.size)
    have hw8 : w.heap.size + 1 ≤ w8.heap.size := by have := hb8.size; omega
    have HC : Hid (∀ k, k < 2 → w8.cell? ⟨g, k, none⟩ = some (.int .i64 ((P.getD k 0 : Nat) : Int))) := by
     intro k hk
     rcases (show k = 0 ∨ k = 1 by omega) with rfl | rfl
     ·rw [HP.out]; exact hq0
     ·rw [HP.out]; exact hq1
    clear hq0 hq1 hb8 z0 z1 z2 z3 z4 z5 z6 HO7 HT7 HO5 HT5
    go_wp2_with fail
    go_loopw [4, 42] (fun v i wr => ∃ k : Nat, k ≤ 2 ∧ i = .int .i64 k ∧ Hid (v.ownBlock ≠ some g) ∧ Hid (wr.ownsRow (w.heap.size + 1) 9 1 v ((B ++ [toT]) ++ (P.take k).map decW).length (strCells ((B ++ [toT]) ++ (P.take k).map decW))) ∧ Hid (Below (w.heap.size + 1) w8 wr) ∧ w8.heap.size ≤ wr.heap.size ∧ Hid (∀ k, k < 2 → wr.cell? ⟨g, k, none⟩ = some (.int .i64 ((P.getD k 0 : Nat) : Int)))) (fun _ i _ => 2 - (intOf i).toNat)
    case atStart => exact ⟨0, Nat.zero_le _, rfl, HNE, by simpa [Hid] using HO8.out, Below.refl _ _, Nat.le_refl _, HC⟩
    case round =>
     obtain ⟨k, hk, rfl, HNE1, HO1, HB1, hws, HC1⟩ := hrel
     clear HC HO8 HNE
     have HBW : Hid (Below w.heap.size w wr) := HB8.out.trans (HB1.out.mono (by omega))
     by_cases hlt : k < 2
     ·have hc1 := HC1.out k hlt
      have hkP : k < P.length := by rw [hP2]; exact hlt
      obtain ⟨p, hp0⟩ : ∃ p, p = P.getD k 0 := ⟨_, rfl⟩
      have hp1 : P[k] = p := by rw [hp0, List.getD_eq_getElem?_getD, List.getElem?_eq_getElem hkP]; rfl
      have hp9 : p ≤ 1000000000 := by rw [← hp1]; exact HP9.out _ (List.getElem_mem hkP)
      have HF : Hid ((B ++ [toT]) ++ (P.take (k + 1)).map decW = ((B ++ [toT]) ++ (P.take k).map decW) ++ [decW p]) := by
       rw [Hid, List.take_succ_eq_append_getElem hkP, List.map_append, hp1]; simp
      have hfl : ((B ++ [toT]) ++ (P.take k).map decW).length ≤ 1048590 := by simp; omega
      obtain ⟨A2, hA2⟩ : ∃ A2, A2 = (B ++ [toT]) ++ (P.take k).map decW := ⟨_, rfl⟩
      rw [← hA2] at HO1 HF hfl
      rw [← hp0] at hc1
      clear hA2 hp0 hp1 hkP
      have HEr : Hid (Env wr) := HE.out.later HBW.out
      go_wp2_with (first | (go_at_call 43; go_loud (refine (z_eI (p : Int) _ (by omega) (by omega) HEr.out).mono ?_; rintro e w9 ⟨rfl, hb9⟩; rw [z_e8]; have HO9 : Hid (w9.ownsRow (w.heap.size + 1) 9 1 u4 A2.length (strCells A2)) := z_ax HO1.out hb9; have HB9 : Hid (Below (w.heap.size + 1) w8 w9) := HB1.out.trans (hb9.mono (by omega)); have hw9 : w8.heap.size ≤ w9.heap.size := Nat.le_trans hws hb9.size; have HC9 : Hid (∀ k, k < 2 → w9.cell? ⟨g, k, none⟩ = some (.int .i64 ((P.getD k 0 : Nat) : Int))) := (fun k hk => (hb9.cell (p := ⟨g, k, none⟩) (by show g < _; omega)).trans (HC1.out k hk)); clear hb9)) | (at_builtin; go_loud (refine wpList_append_lies _ rfl _ _ 45 rfl (w.heap.size + 1) 9 i0 (.string ByteArray.empty) 1 16 Tryz.underlying45 hi0 hz0 hz1 hz2 rfl (by decide) _ _ _ rfl (HO9.out.alloc _) ⟨w9.heap.size, 0, none⟩ 1 1 [.string (decW p)] rfl rfl (cell_one_new _ _ _) (fun u hu => by simp at hu; subst hu; rfl) (by decide) (by unfold maxLen; omega) (by omega) (by simp; omega) (w9.heap.size + 1) (by simp) ?_; intro g' cap' w3' hown' hgrow3 hat3 hlt3'; have X := z_n3 HO9.out HB9.out HNE1.out HC9.out hw9 hg1 (by omega) hown' hgrow3 hat3 (by rfl); clear hown' hgrow3 hat3 hlt3')))
      go_roundw
      case rel => exact ⟨k + 1, by omega, by go_num, X.out.2.2.2.1, (show Hid _ by rw [HF.out]; exact X.out.1), X.out.2.1, X.out.2.2.1, X.out.2.2.2.2⟩
      case measure => simp [intOf]; omega
     ·have e0 : P.take k = P := List.take_of_length_le (by omega)
      rw [e0, HP.out, List.append_assoc] at HO1
      rw [show [toT] ++ List.map decW [a, b] = [toT, decW a, decW b] from rfl] at HO1
      obtain ⟨L9, hL9⟩ : ∃ L9, L9 = B ++ [toT, decW a, decW b] := ⟨_, rfl⟩
      have hLl : L9.length ≤ 1048590 := by rw [hL9]; simp; omega
      have hL0 : 0 < L9.length := by rw [hL9]; simp
      rw [← hL9] at HO1 HJ HN
      clear hL9
      obtain ⟨g9, c9, rfl, hg9, hlt9⟩ := HO1.out.form hL0
      have hc9 := z_bR HO1.out
      have HC9 := z_bq HO1.out
      go_wp2_with fail
      refine (Tryz.strings_Join g9 0 c9 _ ⟨#[32]⟩ _ HC9 hlt9 (by omega) hc9 HJ.out).mono ?_
      rintro e w6 ⟨rfl, hb6⟩
      have HB6 : Below w.heap.size w w6 := HBW.out.trans (hb6.mono HBW.out.size)
      clear hb6
      go_wp2
      go_ret
      exact ⟨by rw [HN.out] <;> rfl, HB6⟩
   ·by_cases hj : z_mR c
    ·
     have ek : kt = 167 := by rw [HKT.out, z_hV, if_neg hp, if_pos hj]
     have ev : kv = .agg #[.string K] := by rw [HKV.out, z_iS, if_neg hp, if_pos hj, HK.out]
     have eT : toW c a b = [toT, decW a] := by unfold toW; exact (if_neg (show ¬(c = 5 ∨ c = 6 ∨ c = 8) from hp)).trans (if_pos (show c = 7 ∨ c = 9 from hj))
     rw [eT] at HJ HN
     have tA := X.leadJ
     have mP := X.placesJ
     subst ek
     subst ev
     clear HKT HKV kw
     obtain ⟨_, y0, y1, y2, y3, y4, y5, y6⟩ := HT5.out
     obtain ⟨P, hP⟩ : ∃ P, P = [a] := ⟨_, rfl⟩
     have HP : Hid (P = [a]) := hP
     have hP2 : P.length = 1 := by rw [hP]; rfl
     have HP9 : Hid (∀ x ∈ P, x ≤ 1000000000) := by rw [Hid, hP]; intro x hx; simp at hx; omega
     clear hP
     go_wp2_with (at_builtin; go_loud (refine wpList_append_own _ rfl _ _ 45 rfl (w.heap.size + 1) 9 i0 (.string ByteArray.empty) 1 16 Tryz.underlying45 hi0 hz0 hz1 hz2 rfl (by decide) _ _ _ rfl (HO5.out.alloc _) ⟨w5.heap.size, 0, none⟩ 1 1 [.string toT] rfl rfl (cell_one_new _ _ _) (fun u hu => by simp at hu; subst hu; rfl) (by unfold maxLen; omega) (by omega) (by simp; omega) ?_; intro v7 w7 hown7 hgrow7 _; have hb7 := z_b8 HO5.out (Below.refl _ _) ((Below.refl _ _).alloc (Nat.le_refl _) _) (by omega) hgrow7 (by rfl); have HO7 : Hid (w7.ownsRow (w.heap.size + 1) 9 1 v7 (B ++ [toT]).length (strCells (B ++ [toT]))) := (by simpa [strCells, Hid] using hown7); have HT7 : Hid (TxW w w7 c a b tt nm undo ao args.length cap) := ⟨HT5.out.1.trans (hb7.mono (by omega)), (hb7.cell (p := ⟨w.heap.size, 0, none⟩) (by simp)).trans y0, (hb7.cell (p := ⟨w.heap.size, 1, none⟩) (by simp)).trans y1, (hb7.cell (p := ⟨w.heap.size, 2, none⟩) (by simp)).trans y2, (hb7.cell (p := ⟨w.heap.size, 3, none⟩) (by simp)).trans y3, (hb7.cell (p := ⟨w.heap.size, 4, none⟩) (by simp)).trans y4, (hb7.cell (p := ⟨w.heap.size, 5, none⟩) (by simp)).trans y5, (hb7.cell (p := ⟨w.heap.size, 6, none⟩) (by simp)).trans y6⟩; have hw7 : w.heap.size + 1 ≤ w7.heap.size := (by have := hb7.size; omega); obtain ⟨_, z0, z1, z2, z3, z4, z5, z6⟩ := HT7.out; clear hown7 hgrow7 hb7 y0 y1 y2 y3 y4 y5 y6))
     refine (z_jJ _ _ _ _ _ _ _ a _).mono ?_
     rintro e w8 ⟨g, rfl, hb8, hg0, hg1, hq0⟩
     obtain ⟨g7, c7, rfl, hg7, hlt7⟩ := HO7.out.form (by simp)
     have HNE : Hid ((Value.slice (some ⟨g7, 0, none⟩) (B ++ [toT]).length c7).ownBlock ≠ some g) := by simp [Hid, Value.ownBlock]; omega
     have HO8 : Hid (w8.ownsRow (w.heap.size + 1) 9 1 (.slice (some ⟨g7, 0, none⟩) (B ++ [toT]).length c7) (B ++ [toT]).length (strCells (B ++ [toT]))) := z_ax HO7.out hb8
     have HB8 : Hid (Below w.heap.size w w8) := HT7.out.1.trans (hb8.mono HT7.out.1.size)
     have hw8 : w.heap.size + 1 ≤ w8.heap.size := by have := hb8.size; omega
     have HC : Hid (∀ k, k < 1 → w8.cell? ⟨g, k, none⟩ = some (.int .i64 ((P.getD k 0 : Nat) : Int))) := by
      intro k hk
      have : k = 0 := by omega
      subst this; rw [HP.out]; exact hq0
     clear hq0 hb8 z0 z1 z2 z3 z4 z5 z6 HO7 HT7 HO5 HT5
     go_wp2_with fail
     go_loopw [4, 42] (fun v i wr => ∃ k : Nat, k ≤ 1 ∧ i = .int .i64 k ∧ Hid (v.ownBlock ≠ some g) ∧ Hid (wr.ownsRow (w.heap.size + 1) 9 1 v ((B ++ [toT]) ++ (P.take k).map decW).length (strCells ((B ++ [toT]) ++ (P.take k).map decW))) ∧ Hid (Below (w.heap.size + 1) w8 wr) ∧ w8.heap.size ≤ wr.heap.size ∧ Hid (∀ k, k < 1 → wr.cell? ⟨g, k, none⟩ = some (.int .i64 ((P.getD k 0 : Nat) : Int)))) (fun _ i _ => 1 - (intOf i).toNat)
     case atStart => exact ⟨0, Nat.zero_le _, rfl, HNE, by simpa [Hid] using HO8.out, Below.refl _ _, Nat.le_refl _, HC⟩
     case round =>
      obtain ⟨k, hk, rfl, HNE1, HO1, HB1, hws, HC1⟩ := hrel
      clear HC HO8 HNE
      have HBW : Hid (Below w.heap.size w wr) := HB8.out.trans (HB1.out.mono (by omega))
      by_cases hlt : k < 1
      ·have hc1 := HC1.out k hlt
       have hkP : k < P.length := by rw [hP2]; exact hlt
       obtain ⟨p, hp0⟩ : ∃ p, p = P.getD k 0 := ⟨_, rfl⟩
       have hp1 : P[k] = p := by rw [hp0, List.getD_eq_getElem?_getD, List.getElem?_eq_getElem hkP]; rfl
       have hp9 : p ≤ 1000000000 := by rw [← hp1]; exact HP9.out _ (List.getElem_mem hkP)
       have HF : Hid ((B ++ [toT]) ++ (P.take (k + 1)).map decW = ((B ++ [toT]) ++ (P.take k).map decW) ++ [decW p]) := by
        rw [Hid, List.take_succ_eq_append_getElem hkP, List.map_append, hp1]; simp
       have hfl : ((B ++ [toT]) ++ (P.take k).map decW).length ≤ 1048590 := by simp; omega
       obtain ⟨A2, hA2⟩ : ∃ A2, A2 = (B ++ [toT]) ++ (P.take k).map decW := ⟨_, rfl⟩
       rw [← hA2] at HO1 HF hfl
       rw [← hp0] at hc1
       clear hA2 hp0 hp1 hkP
       have HEr : Hid (Env wr) := HE.out.later HBW.out
       go_wp2_with (first | (go_at_call 43; go_loud (refine (z_eI (p : Int) _ (by omega) (by omega) HEr.out).mono ?_; rintro e w9 ⟨rfl, hb9⟩; rw [z_e8]; have HO9 : Hid (w9.ownsRow (w.heap.size + 1) 9 1 u4 A2.length (strCells A2)) := z_ax HO1.out hb9; have HB9 : Hid (Below (w.heap.size + 1) w8 w9) := HB1.out.trans (hb9.mono (by omega)); have hw9 : w8.heap.size ≤ w9.heap.size := Nat.le_trans hws hb9.size; have HC9 : Hid (∀ k, k < 1 → w9.cell? ⟨g, k, none⟩ = some (.int .i64 ((P.getD k 0 : Nat) : Int))) := (fun k hk => (hb9.cell (p := ⟨g, k, none⟩) (by show g < _; omega)).trans (HC1.out k hk)); clear hb9)) | (at_builtin; go_loud (refine wpList_append_lies _ rfl _ _ 45 rfl (w.heap.size + 1) 9 i0 (.string ByteArray.empty) 1 16 Tryz.underlying45 hi0 hz0 hz1 hz2 rfl (by decide) _ _ _ rfl (HO9.out.alloc _) ⟨w9.heap.size, 0, none⟩ 1 1 [.string (decW p)] rfl rfl (cell_one_new _ _ _) (fun u hu => by simp at hu; subst hu; rfl) (by decide) (by unfold maxLen; omega) (by omega) (by simp; omega) (w9.heap.size + 1) (by simp) ?_; intro g' cap' w3' hown' hgrow3 hat3 hlt3'; have X := z_n3 HO9.out HB9.out HNE1.out HC9.out hw9 hg1 (by omega) hown' hgrow3 hat3 (by rfl); clear hown' hgrow3 hat3 hlt3')))
       go_roundw
       case rel => exact ⟨k + 1, by omega, by go_num, X.out.2.2.2.1, (show Hid _ by rw [HF.out]; exact X.out.1), X.out.2.1, X.out.2.2.1, X.out.2.2.2.2⟩
       case measure => simp [intOf]; omega
      ·have e0 : P.take k = P := List.take_of_length_le (by omega)
       rw [e0, HP.out, List.append_assoc] at HO1
       rw [show [toT] ++ List.map decW [a] = [toT, decW a] from rfl] at HO1
       obtain ⟨L9, hL9⟩ : ∃ L9, L9 = B ++ [toT, decW a] := ⟨_, rfl⟩
       have hLl : L9.length ≤ 1048590 := by rw [hL9]; simp; omega
       have hL0 : 0 < L9.length := by rw [hL9]; simp
       rw [← hL9] at HO1 HJ HN
       clear hL9
       obtain ⟨g9, c9, rfl, hg9, hlt9⟩ := HO1.out.form hL0
       have hc9 := z_bR HO1.out
       have HC9 := z_bq HO1.out
       go_wp2_with fail
       refine (Tryz.strings_Join g9 0 c9 _ ⟨#[32]⟩ _ HC9 hlt9 (by omega) hc9 HJ.out).mono ?_
       rintro e w6 ⟨rfl, hb6⟩
       have HB6 : Below w.heap.size w w6 := HBW.out.trans (hb6.mono HBW.out.size)
       clear hb6
       go_wp2
       go_ret
       exact ⟨by rw [HN.out] <;> rfl, HB6⟩
    ·have ek : kt = 164 := by rw [HKT.out, z_hV, if_neg hp, if_neg hj]
     have ev : kv = .string K := by rw [HKV.out, z_iS, if_neg hp, if_neg hj, HK.out]
     have eT : toW c a b = [] := by unfold toW; exact (if_neg (show ¬(c = 5 ∨ c = 6 ∨ c = 8) from hp)).trans (if_neg (show ¬(c = 7 ∨ c = 9) from hj))
     rw [eT, List.append_nil] at HJ HN
     have HC5 := z_bq HO5.out
     have tA := X.leadP
     subst ek
     subst ev
     clear HKT HKV kw
     go_wp2_with fail
     refine (Tryz.strings_Join g5 0 c5 B ⟨#[32]⟩ w5 HC5 hlt5 (by omega) hc5 HJ.out).mono ?_
     rintro e w6 ⟨rfl, hb6⟩
     have HB6 : Below w.heap.size w w6 := HT5.out.1.trans (hb6.mono HT5.out.1.size)
     clear hb6
     go_wp2
     go_ret
     exact ⟨by rw [HN.out] <;> rfl, HB6⟩
end
section
open Go.RowKit
theorem z_h7 (ao : Option Addr) (cap : Nat) (ls : List Ln) (w : World) (hcap : ls.length ≤ cap) (hl : ls.length ≤ 1048576) (hi : LinesAt w.heap.size w ao ls) (hz : ∀ l ∈ ls, LnSz l) (he : Env w) :
  Calls Tryz.prog 19 #[.slice ao ls.length cap] w fun e w' => ∃ (ok : Bool) (ss : List Stp), e = .returned (.string (z_bO ss ss.length)) ∧ Below w.heap.size w w' ∧ MkL ls ok ss :=
 z_jv z_h4 ao cap ls w hcap hl hi hz he
theorem z_ki (ao : Option Addr) (cap : Nat) (ls : List Ln) (w : World) (hcap : ls.length ≤ cap) (hx : ls.length ≤ 9223372036854775807) (hm : ∀ l ∈ ls, LnMx l) (hi : LinesAt w.heap.size w ao ls) (he : Env w) :
  Calls Tryz.prog 4 #[.slice ao ls.length cap] w fun e w' => e = .returned (.bool true) ∧ Below w.heap.size w w' := by
 have HI : Hid (LinesAt w.heap.size w ao ls) := hi
 have HM : Hid (∀ l ∈ ls, LnMx l) := hm
 have HE : Hid (Env w) := he
 clear hi hm he
 go_enter Tryz.func4, Tryz.ntmps4
 go_wp2_with fail
 refine (z_fa ao cap ls 1048576 w (by omega) (by omega) hx HM.out HI.out).mono ?_
 rintro e w1 ⟨r, rfl, hr, hb1⟩
 have HB1 : Hid (Below w.heap.size w w1) := hb1
 rcases hr with ⟨rfl, _⟩ | ⟨hr0, hr1⟩
 ·clear hb1
  go_wp2
  go_ret
  exact ⟨rfl, HB1.out⟩
 ·have hbulk : z_eZ ls ≤ 1048576 := by omega
  obtain ⟨hlen, hzs⟩ := z_nz hbulk
  have HZ : Hid (∀ l ∈ ls, LnSz l) := hzs
  have hrn : ¬ r < 0 := by omega
  clear hr1 hzs hb1 hbulk
  go_wp2_with fail
  refine (z_cr ao cap ls w1 hlen HZ.out (HI.out.later HB1.out)).mono ?_
  rintro e w2 ⟨ps2, rfl, hb2, hp2, ho2⟩
  have HB2 : Hid (Below w.heap.size w w2) := HB1.out.trans (hb2.mono HB1.out.size)
  have HL2 : Hid (LinesAt w2.heap.size w2 (some ⟨w1.heap.size, 0, none⟩) ls) := by
   obtain ⟨ao', cap', e, _, hl⟩ := z_e5 ho2
   simp only [Value.slice.injEq] at e
   obtain ⟨rfl, _, _⟩ := e
   rw [hp2] at hl; exact hl
  clear hb2 hp2 ho2
  go_wp2_with fail
  refine (z_gq _ _ ls w2 (Nat.le_refl _) hlen HL2.out HZ.out).mono ?_
  rintro e w3 ⟨ok3, ss3, rfl, hb3, hmk3⟩
  have HB3 : Hid (Below w.heap.size w w3) := HB2.out.trans (hb3.mono HB2.out.size)
  have HMk3 : Hid (MkL ls ok3 ss3) := hmk3
  obtain ⟨X, hX⟩ : ∃ X, X = z_bO ss3 ss3.length := ⟨_, rfl⟩
  have HX : Hid (X = z_bO ss3 ss3.length) := hX
  rw [← hX]
  clear hb3 hmk3 hX
  go_wp2_with fail
  refine (z_cr ao cap ls w3 hlen HZ.out (HI.out.later HB3.out)).mono ?_
  rintro e w4 ⟨ps4, rfl, hb4, hp4, ho4⟩
  have HB4 : Hid (Below w.heap.size w w4) := HB3.out.trans (hb4.mono HB3.out.size)
  have HL4 : Hid (LinesAt w4.heap.size w4 (some ⟨w3.heap.size, 0, none⟩) ls) := by
   obtain ⟨ao', cap', e, _, hl⟩ := z_e5 ho4
   simp only [Value.slice.injEq] at e
   obtain ⟨rfl, _, _⟩ := e
   rw [hp4] at hl; exact hl
  clear hb4 hp4 ho4
  go_wp2_with fail
  refine (z_h7 _ _ ls w4 (Nat.le_refl _) hlen HL4.out HZ.out (HE.out.later HB4.out)).mono ?_
  rintro e w5 ⟨ok5, ss5, rfl, hb5, hmk5⟩
  obtain ⟨_, hss⟩ := z_mP HMk3.out hmk5
  have HB5 : Hid (Below w.heap.size w w5) := HB4.out.trans (hb5.mono HB4.out.size)
  have HB45 : Hid (Below w4.heap.size w4 w5) := hb5
  rw [← hss, ← HX.out]
  have hxx : (X.toList == X.toList) = true := by simp
  clear hb5 hmk5 hss
  go_wp2_with fail
  refine (z_cr ao cap ls w5 hlen HZ.out (HI.out.later HB5.out)).mono ?_
  rintro e w7 ⟨ps7, rfl, hb7, hp7, ho7⟩
  have HB7 : Hid (Below w.heap.size w w7) := HB5.out.trans (hb7.mono HB5.out.size)
  have HB47 : Hid (Below w4.heap.size w4 w7) := HB45.out.trans (hb7.mono HB45.out.size)
  have HL7 : Hid (LinesAt w7.heap.size w7 (some ⟨w5.heap.size, 0, none⟩) ls) := by
   obtain ⟨ao', cap', e, _, hl⟩ := z_e5 ho7
   simp only [Value.slice.injEq] at e
   obtain ⟨rfl, _, _⟩ := e
   rw [hp7] at hl; exact hl
  clear hb7 hp7 ho7
  go_wp2_with fail
  refine (z_eU _ _ _ _ ls ls w7 hlen hlen (fun l hl => (HZ.out l hl).len) (fun l hl => (HZ.out l hl).len) (HL4.out.later HB47.out) HL7.out).mono ?_
  rintro e w8 ⟨b, rfl, hb, hb8⟩
  have hbt : b = true := hb.2 rfl
  subst hbt
  have HB8 : Hid (Below w.heap.size w w8) := HB7.out.trans (hb8.mono HB7.out.size)
  clear hb hb8
  go_wp2
  go_ret
  exact ⟨rfl, HB8.out⟩
end
end Go.Proofs.YtlbjjbolbopfmaaGreatDoor
