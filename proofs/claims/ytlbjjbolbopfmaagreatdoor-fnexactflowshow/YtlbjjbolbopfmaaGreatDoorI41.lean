import Derived.Test.YtlbjjbolbopfmaaGreatDoorI40
import Derived.Test.YtlbjjbolbopfmaaGreatDoorI09
import Derived.Shelf.Strings.BuilderK
import Derived.Deep.RegionHeld3
namespace Go.Proofs.YtlbjjbolbopfmaaGreatDoor
set_option maxHeartbeats 8000000
set_option maxRecDepth 1000000
set_option linter.unusedVariables false
section
open Go.RowKit
theorem z_nW (b : Nat) (w : World) (h0 : w.cell? ⟨b, 0, none⟩ = some (.pointer (some ⟨b, 0, none⟩))) : Calls Tryz.prog 78 #[.pointer (some ⟨b, 0, none⟩)] w fun e w' => e = .returned (.tuple #[]) ∧ w' = w := by
 obtain ⟨j, hj, _⟩ := Option.map_eq_some_iff.1 Tryz.Builder_Extra_169.sizeBuilder
 go_enter Tryz.func78, Tryz.ntmps78
 go_wp2
 rw [Lib.run_neq_ptr_same w _ Tryz.underlying72 hj]
 go_wp2
 go_end0
 exact ⟨rfl, rfl⟩
theorem z_nx (b : Nat) (w : World) (h0 : w.cell? ⟨b, 0, none⟩ = some (.pointer none)) (hsh : w.shape? b = some (74, 2)) (hfz : w.frozen? ⟨b, 0, none⟩ = false) : Calls Tryz.prog 78 #[.pointer (some ⟨b, 0, none⟩)] w fun e w' => e = .returned (.tuple #[]) ∧ w' = w.setCell ⟨b, 0, none⟩ (.pointer (some ⟨b, 0, none⟩)) := by
 obtain ⟨j, hj, hjs⟩ := Option.map_eq_some_iff.1 Tryz.Builder_Extra_169.sizeBuilder
 have hx := @run_callFunc_extern Tryz.prog 114 _ Extern.AbiNoEscape.same Tryz.func114 (by kernel_rfl) (by kernel_rfl) (by kernel_rfl) (by kernel_rfl)
 have h1 := Lib.run_to_unsafe w ⟨b, 0, none⟩ Tryz.underlying72 Tryz.underlying141 hj (by rw [hjs]; decide) hsh (Nat.zero_lt_succ 1)
 have h2 := Lib.run_from_unsafe w ⟨b, 0, none⟩ Tryz.underlying141 Tryz.underlying72 hj hsh Tryz.Builder_Extra_169.liesBuilder
 go_enter Tryz.func78, Tryz.ntmps78
 go_wp2
 rw [Lib.run_noEscape]
 simp only [Result.andThen]
 rw [Oper.upon_value]
 go_wp2
 go_end0
 exact ⟨rfl, rfl⟩
theorem z_m1 (B b : Nat) (bs : List Value) (w : World) (h : Lib.IsBuilder 74 5 B b bs w) : Calls Tryz.prog 78 #[.pointer (some ⟨b, 0, none⟩)] w fun e w' => e = .returned (.tuple #[]) ∧ Lib.BuilderAt 74 5 B b (.pointer (some ⟨b, 0, none⟩)) bs w' ∧ Below B w w' ∧ Lib.OthersKept 5 (some b) w w' := by
 rcases h with h | h
 ·refine (z_nx b w h.cell0 h.shape h.frozen0).mono ?_
  rintro e w' ⟨rfl, rfl⟩
  exact ⟨rfl, h.used _, (Below.refl B w).setCell (p := ⟨b, 0, none⟩) h.1 _, (Lib.OthersKept.refl _ _ w).setCell ⟨b, 0, none⟩ rfl _⟩
 ·refine (z_nW b w h.cell0).mono ?_
  rintro e w' ⟨rfl, rfl⟩
  exact ⟨rfl, h, Below.refl B _, Lib.OthersKept.refl _ _ _⟩
theorem z_j1 {w : World} {B : Nat} {e : TypeId} {size : Nat} {v : Value} {n : Nat} {xs : List Value} (h : w.ownsRow B e size v n xs) : ∀ g, v.ownBlock = some g → ∃ c fz, w.heap[g]? = some (.cells c e fz) := by
 intro g hg
 rcases h.2 with ⟨hv, _⟩ | ⟨g2, cap, cur, hv, _, hh, _⟩
 ·rw [hv] at hg; cases hg
 ·rw [hv] at hg
  have e2 : g2 = g := by simpa [Value.ownBlock] using hg
  subst e2
  exact ⟨_, _, hh⟩
theorem b_lt {w : World} {b : Nat} {o : Obj} (h : w.heap[b]? = some o) : b < w.heap.size := (Array.getElem?_eq_some_iff.1 h).1
theorem z_dI (B b : Nat) (bs : List Value) (c : Int) (w : World) (h : Lib.IsBuilder 74 5 B b bs w) (hlen : bs.length + 1 ≤ 140737488355328) (hBw : B ≤ w.heap.size) :
  Calls Tryz.prog 44 #[.pointer (some ⟨b, 0, none⟩), .int .u8 c] w fun e w' => e = .returned .nilIface ∧ Lib.IsBuilder 74 5 B b (bs ++ [.int .u8 c]) w' ∧ Below B w w' ∧ Lib.OthersKept 5 (some b) w w' := by
 obtain ⟨i0, hi, hz0, hz1, hz2⟩ := info_parts Tryz.Builder_Extra_169.infoByte
 go_enter Tryz.func44, Tryz.ntmps44
 go_wp2_with fail
 refine (z_m1 B b bs _ h).mono ?_
 rintro e w1 ⟨rfl, h1, hb1, hk1⟩
 obtain ⟨hB, v, hbk, hown, hne⟩ := h1
 have c0 : w1.cell? ⟨b, 0, none⟩ = some (.pointer (some ⟨b, 0, none⟩)) := by rw [Lib.cell_of_heap hbk]; rfl
 have c1 : w1.cell? ⟨b, 1, none⟩ = some v := by rw [Lib.cell_of_heap hbk]; rfl
 have hs1 := hb1.size
 have hbl := b_lt hbk
 go_wp2_with (at_builtin; go_loud (refine wpList_append_own _ rfl _ _ 40 rfl B 5 i0 (.int .u8 0) 1 1 Tryz.underlying40 hi hz0 hz1 hz2 rfl (by decide) _ _ _ rfl (hown.alloc _) ⟨w1.heap.size, 0, none⟩ 1 1 [.int .u8 c] rfl rfl (cell_one_new _ _ _) (fun u hu => by simp at hu; subst hu; rfl) (by unfold maxLen; omega) (by omega) (by simp; omega) ?_; intro v2 w2 hown2 hgrow _; have hb2 : w2.heap[b]? = some (.cells #[.pointer (some ⟨b, 0, none⟩), v] 74 (0, 0)) := (by rw [hgrow.block b (by simp; omega) (fun e => hne e.symm), Lib.alloc_old w1 _ b hbl]; exact hbk); have d0 : w2.cell? ⟨b, 0, none⟩ = some (.pointer (some ⟨b, 0, none⟩)) := (by rw [Lib.cell_of_heap hb2]; rfl); have d1 : w2.cell? ⟨b, 1, none⟩ = some v := (by rw [Lib.cell_of_heap hb2]; rfl); have f1 : w2.frozen? ⟨b, 1, none⟩ = false := Lib.frozen_of_heap hb2 1; obtain ⟨g, cap, rfl, _, _⟩ := hown2.form (by omega)))
 go_ret
 refine ⟨rfl, .inr ?_, ?_, ((hk1.alloc _).grown hgrow (z_j1 (hown.alloc _))).setCell ⟨b, 1, none⟩ rfl _⟩
 ·exact Lib.BuilderAt.put (T := 74) (e := 5) hB hb2 (bs' := bs ++ [.int .u8 c]) (by simpa using hown2) (by decide)
 ·exact ((hb1.alloc (by omega) _).grown hgrow (by simp; omega) (fun k hk => (hown.lt k hk).1)).setCell (p := ⟨b, 1, none⟩) hB _
theorem z_cZ (B b : Nat) (bs : List Value) (s : ByteArray) (w : World) (h : Lib.IsBuilder 74 5 B b bs w) (hlen : bs.length + s.size ≤ 140737488355328) (hBw : B ≤ w.heap.size) :
  Calls Tryz.prog 42 #[.pointer (some ⟨b, 0, none⟩), .string s] w fun e w' => e = .returned (.tuple #[.int .i64 s.size, .nilIface]) ∧ Lib.IsBuilder 74 5 B b (bs ++ Lib.strCells s) w' ∧ Below B w w' ∧ Lib.OthersKept 5 (some b) w w' := by
 obtain ⟨i0, hi, hz0, hz1, hz2⟩ := info_parts Tryz.Builder_Extra_169.infoByte
 go_enter Tryz.func42, Tryz.ntmps42
 go_wp2_with fail
 refine (z_m1 B b bs _ h).mono ?_
 rintro e w1 ⟨rfl, h1, hb1, hk1⟩
 obtain ⟨hB, v, hbk, hown, hne⟩ := h1
 have c0 : w1.cell? ⟨b, 0, none⟩ = some (.pointer (some ⟨b, 0, none⟩)) := by rw [Lib.cell_of_heap hbk]; rfl
 have c1 : w1.cell? ⟨b, 1, none⟩ = some v := by rw [Lib.cell_of_heap hbk]; rfl
 have hs1 := hb1.size
 have hbl := b_lt hbk
 go_wp2_with (at_builtin; go_loud (refine Lib.wpList_append_own_string _ rfl _ _ 40 9 rfl B 5 i0 Tryz.underlying40 Tryz.underlying9 hi hz0 hz1 hz2 _ _ _ rfl hown s rfl (by unfold maxLen; omega) (by omega) (by omega) ?_; intro v2 w2 hown2 hgrow _; have hb2 : w2.heap[b]? = some (.cells #[.pointer (some ⟨b, 0, none⟩), v] 74 (0, 0)) := (by rw [hgrow.block b hbl (fun e => hne e.symm)]; exact hbk); have d0 : w2.cell? ⟨b, 0, none⟩ = some (.pointer (some ⟨b, 0, none⟩)) := (by rw [Lib.cell_of_heap hb2]; rfl); have d1 : w2.cell? ⟨b, 1, none⟩ = some v := (by rw [Lib.cell_of_heap hb2]; rfl); have f1 : w2.frozen? ⟨b, 1, none⟩ = false := Lib.frozen_of_heap hb2 1; obtain ⟨ao, n2, cap, rfl⟩ : ∃ ao n2 cap, v2 = .slice ao n2 cap := (by rcases hown2.2 with ⟨hv, _⟩ | ⟨g, cap, cur, hv, _⟩ <;> exact ⟨_, _, _, hv⟩)))
 go_ret2
 refine ⟨rfl, .inr ?_, ?_, (hk1.grown hgrow (z_j1 hown)).setCell ⟨b, 1, none⟩ rfl _⟩
 ·exact Lib.BuilderAt.put (T := 74) (e := 5) hB hb2 (bs' := bs ++ Lib.strCells s) (by simpa [Lib.strCells_length] using hown2) (by decide)
 ·exact (hb1.grown hgrow (by omega) (fun k hk => (hown.lt k hk).1)).setCell (p := ⟨b, 1, none⟩) hB _
end
section
open Go.RowKit
theorem z_lK (w : World) (L T : Obj) : ((w.alloc L).alloc T).heap[w.heap.size]? = some L := (heap_alloc_old (w.alloc L) T (by simp)).trans (heap_alloc_new w L)
theorem z_lG (w : World) (L T : Obj) (n : Nat) (h : n = w.heap.size + 1) : ((w.alloc L).alloc T).heap[n]? = some T := by
 have h2 := heap_alloc_new (w.alloc L) T
 rw [show (w.alloc L).heap.size = n by rw [h]; simp] at h2
 exact h2
theorem z_gW (base gl gt : Nat) (K tt nm : ByteArray) (W : World) (hL : W.heap[gl]? = some (.cells #[.string K] 9 (0, 0))) (hT : W.heap[gt]? = some (.cells #[.string tt, .string nm] 9 (0, 0))) (hne : gl ≠ gt) (hb : base ≤ gl) :
  Calls Tryz.prog 81 #[.slice (some ⟨gl, 0, none⟩) 1 1, .slice (some ⟨gt, 0, none⟩) 2 2] W fun e w' => ∃ v', e = .returned v' ∧ Below base W w' ∧ w'.ownsRow base 9 1 v' ([K] ++ z_ax [tt, nm]).length (strCells ([K] ++ z_ax [tt, nm])) :=
 z_dN base gt 2 _ [K] [tt, nm] W (z_gB hL hb) (by have := (Array.getElem?_eq_some_iff.1 hL).1; omega)
  (fun k h => by
   match k, h with
   | 0, _ => simp [World.cell?, hT]
   | 1, _ => simp [World.cell?, hT])
  (Array.getElem?_eq_some_iff.1 hT).1 (by simp [Value.ownBlock, hne]) (by simp) (Nat.le_refl _)
theorem z_n5 {base g cap' g' W : Nat} {u : Value} {row : Option Nat} {A : List ByteArray} {x : ByteArray} {n : Nat} {uu : Nat → Value} {w wr w3 : World} {t : TypeId} (ho : wr.ownsRow base 9 1 u A.length (strCells A)) (hb : Below base w wr)
  (hne : u.ownBlock ≠ some g) (hm : ∀ k, k < n → wr.cell? ⟨g, k, none⟩ = some (uu k)) (hws : W ≤ wr.heap.size) (hg : g < W) (hbase : base ≤ wr.heap.size)
  (hown : w3.ownsRow base 9 1 (.slice (some ⟨g', 0, none⟩) (A.length + 1) cap') (A.length + 1) (strCells A ++ [.string x])) (hgrow0 : (wr.alloc (.cells #[.string x] t)).grownBy w3 row)
  (hat0 : row = some g' ∨ g' = wr.heap.size + 1) (hrow : row = u.ownBlock) :
  Aside (w3.ownsRow base 9 1 (.slice (some ⟨g', 0, none⟩) (A.length + 1) cap') (A ++ [x]).length (strCells (A ++ [x])) ∧ Below base w w3 ∧ W ≤ w3.heap.size ∧ (Value.slice (some ⟨g', 0, none⟩) (A.length + 1) cap').ownBlock ≠ some g ∧ (∀ k, k < n → w3.cell? ⟨g, k, none⟩ = some (uu k))) := by
 rw [hrow] at hgrow0 hat0
 have hgrow := hgrow0
 have hat := hat0
 have hbw3 : Below base w w3 := Below.grown (hb.alloc (by omega) _) hgrow (by simp; omega) (fun j hj => by have := (ho.lt _ hj).1; omega)
 refine ⟨by simpa [strCells] using hown, hbw3, ?_, ?_, ?_⟩
 ·have := hgrow.size; simp at this; omega
 ·intro h
  have h2 : g' = g := by simpa [Value.ownBlock] using h
  rcases hat with h3 | h3
  ·exact hne (by rw [h3, h2])
  ·omega
 ·intro j hj
  rw [hgrow.cell_far ⟨g, j, none⟩ (by simp; omega) (fun h => hne h.symm), Below.cell (p := ⟨g, j, none⟩) ((Below.refl _ _).alloc (Nat.le_refl _) _) (by show g < _; omega)]
  exact hm j hj
theorem z_iO (c a b : Nat) (tt nm undo : ByteArray) (args : List ByteArray) (ao : Option Addr) (cap : Nat) (w : World) (hc0 : 1 ≤ c) (hc : c ≤ 12) (ha : a ≤ 1000000000) (hb : b ≤ 1000000000) (h1 : tt.size ≤ 1048576) (h2 : nm.size ≤ 1048576) (h3 : undo.size ≤ 1048576) (h4 : ∀ s ∈ args, s.size ≤ 1048576) (hl : args.length ≤ 1048576) (hcap : args.length ≤ cap) (hi : StrsAt 0 w.heap.size w ao args) (he : Env w) :
  Calls Tryz.prog 45 #[.agg #[.int .i64 c, .string tt, .string nm, .slice ao args.length cap, .string undo, .int .i64 a, .int .i64 b]] w fun e w' => e = .returned (.string (z_cF c tt nm args undo a b)) ∧ Below w.heap.size w w' := by
 obtain ⟨i0, hi0, hz0, hz1, hz2⟩ := info_parts Tryz.infoStr
 have HI : Hid (StrsAt 0 w.heap.size w ao args) := hi
 have HZ : Hid (∀ s ∈ args, s.size ≤ 1048576) := h4
 have HE : Hid (Env w) := he
 have kw := z_lq c
 clear hi h4 he
 go_enter Tryz.func45, Tryz.ntmps45
 go_wp2_with fail
 refine (z_fZ c hc0 hc _).mono ?_
 rintro e w2 ⟨rfl, hw2⟩
 have HT2 : Hid (TxW w w2 c a b tt nm undo ao args.length cap) := by
  rw [hw2]
  exact ⟨(Below.refl _ _).alloc (Nat.le_refl _) _, by simp, by simp, by simp, by simp, by simp, by simp, by simp⟩
 have HS2 : Hid (w2.heap.size = w.heap.size + 1) := by rw [Hid, hw2]; simp
 clear hw2
 obtain ⟨kt, hkt⟩ : ∃ t, t = z_ia c := ⟨_, rfl⟩
 obtain ⟨kv, hkv⟩ : ∃ t, t = z_iL c := ⟨_, rfl⟩
 rw [← hkt, ← hkv] at kw ⊢
 have HKT : Hid (kt = z_ia c) := hkt
 have HKV : Hid (kv = z_iL c) := hkv
 clear hkt hkv
 obtain ⟨K, hK⟩ : ∃ K, K = z_cR c := ⟨_, rfl⟩
 rw [← hK] at kw
 have HK : Hid (K = z_cR c) := hK
 clear hK
 obtain ⟨_, y0, y1, y2, y3, y4, y5, y6⟩ := HT2.out
 have hbx : w.heap.size < w2.heap.size := by rw [HS2.out]; omega
 obtain ⟨A, hA⟩ : ∃ A, A = [K] ++ z_ax [tt, nm] := ⟨_, rfl⟩
 have HN : Hid (z_cF c tt nm args undo a b = z_ca (A ++ args ++ z_co undo ++ toW c a b)) := by
  rw [Hid, z_cF, ← z_la, z_iZ, hA, HK.out]
  simp only [List.append_assoc, List.cons_append, List.nil_append]
 have hAl : A.length ≤ 3 := by rw [hA]; have := z_gN [tt, nm]; simp at this ⊢; omega
 have hA0 : 0 < A.length := by rw [hA]; simp
 have HA : Hid (A = [K] ++ z_ax [tt, nm]) := hA
 clear hA
 go_upto_region 2 with fail
 go_cut [4] from 12 to 20 (fun v wx => Hid (TxW w wx c a b tt nm undo ao args.length cap) ∧ Hid (wx.ownsRow (w.heap.size + 1) 9 1 v A.length (strCells A)))
 case first =>
  go_region_held3 (fun wx => wx.cell? ⟨w.heap.size, 1, none⟩ = some (.string tt) ∧ wx.cell? ⟨w.heap.size, 2, none⟩ = some (.string nm))
   (first | (go_keep; done) | exact HY3.out)
   (first
    | (go_at_call 245; refine (z_mC _ _).mono ?_; rintro e w' ⟨rfl, rfl⟩)
    | (go_at_call 81; go_loud (refine Calls.mono (z_gW w2.heap.size _ _ K tt nm _ ?_ ?_ ?_ ?_) ?_; (first | exact z_lK w2 _ _ | exact z_lG w2 _ _ _ rfl); (first | exact z_lK w2 _ _ | exact z_lG w2 _ _ _ rfl); omega; omega; rintro e w3 ⟨v3, rfl, hb3, hown3⟩; have X3 : Aside (Below w2.heap.size w2 w3 ∧ w3.ownsRow w2.heap.size 9 1 v3 ([K] ++ z_ax [tt, nm]).length (strCells ([K] ++ z_ax [tt, nm]))) := ⟨(((Below.refl _ _).alloc (Nat.le_refl _) _).alloc (by simp) _).drew.trans hb3, hown3⟩; have HY3 : Hid (w3.cell? ⟨w.heap.size, 1, none⟩ = some (.string tt) ∧ w3.cell? ⟨w.heap.size, 2, none⟩ = some (.string nm)) := ⟨(X3.out.1.cell (p := ⟨w.heap.size, 1, none⟩) hbx).trans y1, (X3.out.1.cell (p := ⟨w.heap.size, 2, none⟩) hbx).trans y2⟩; clear hb3 hown3)))
  all_goals
   obtain ⟨hb3, hown3⟩ := X3.out
   clear X3 HY3
   have HT3 : Hid (TxW w w3 c a b tt nm undo ao args.length cap) := ⟨HT2.out.1.trans (hb3.mono (Nat.le_of_lt hbx)), (hb3.cell (p := ⟨w.heap.size, 0, none⟩) hbx).trans y0, (hb3.cell (p := ⟨w.heap.size, 1, none⟩) hbx).trans y1, (hb3.cell (p := ⟨w.heap.size, 2, none⟩) hbx).trans y2, (hb3.cell (p := ⟨w.heap.size, 3, none⟩) hbx).trans y3, (hb3.cell (p := ⟨w.heap.size, 4, none⟩) hbx).trans y4, (hb3.cell (p := ⟨w.heap.size, 5, none⟩) hbx).trans y5, (hb3.cell (p := ⟨w.heap.size, 6, none⟩) hbx).trans y6⟩
   rw [HS2.out, ← HA.out] at hown3
   have HO3 : Hid (w3.ownsRow (w.heap.size + 1) 9 1 v3 A.length (strCells A)) := hown3
   clear hb3 y0 y1 y2 y3 y4 y5 y6 HT2 hbx hown3
   go_wp2_with fail
   go_meet
   case rel => exact ⟨HT3, HO3⟩
 case rest =>
  obtain ⟨w3, hw3⟩ : ∃ w3, w3 = wc := ⟨_, rfl⟩
  subst hw3
  obtain ⟨HT3, HO3⟩ := hcut
  clear HT2 HS2 HA y0 y1 y2 y3 y4 y5 y6 hbx
  obtain ⟨g3, c3, rfl, hg3, hlt3⟩ := HO3.out.form hA0
  have hcA := z_bP HO3.out
  obtain ⟨_, y0, y1, y2, y3, y4, y5, y6⟩ := HT3.out
  have hw3 : w.heap.size + 1 ≤ w3.heap.size := by obtain ⟨x, hx⟩ := z_cP y0; exact (Array.getElem?_eq_some_iff.1 hx).1
  go_upto_region 3 with fail
  go_cut [4] from 21 to 24 (fun v wx => Hid (TxW w wx c a b tt nm undo ao args.length cap) ∧ Hid (wx.ownsRow (w.heap.size + 1) 9 1 v (A ++ args).length (strCells (A ++ args))))
  case first =>
   cases ao with
   | none =>
    have e0 : args = [] := by
     cases args with
     | nil => rfl
     | cons x r => obtain ⟨_, _, e, _⟩ := HI.out 0 (by simp); cases e
    subst e0
    go_wp2
    go_meet
    case rel => exact ⟨HT3, by simpa [Hid] using HO3.out⟩
   | some ad =>
    have HCA : Hid (∀ j u, (strCells args)[j]? = some u → w3.cell? (ad.add j) = some u) := by
     cases args with
     | nil => intro j u hj; simp [strCells] at hj
     | cons x r =>
      obtain ⟨b0, off0, e, _⟩ := HI.out 0 (by simp)
      cases e
      exact z_b6 (HI.out.below HT3.out.1)
    go_wp2_with (at_builtin; go_loud (refine wpList_append_own _ rfl _ _ 45 rfl (w.heap.size + 1) 9 i0 (.string ByteArray.empty) 1 16 Tryz.underlying45 hi0 hz0 hz1 hz2 rfl (by decide) _ _ _ rfl HO3.out ad args.length cap (strCells args) rfl (by simp [strCells]) HCA.out (by intro u hu; simp [strCells] at hu; obtain ⟨a, _, rfl⟩ := hu; rfl) (by unfold maxLen; first | omega | (simp; omega)) (by first | omega | (simp; omega)) (by omega) ?_; intro v4 w4 hown4 hgrow4 _; have hb4 := z_b7 HO3.out (Below.refl _ _) (Below.refl _ _) (by omega) hgrow4 (by rfl); have HO4 : Hid (w4.ownsRow (w.heap.size + 1) 9 1 v4 (A ++ args).length (strCells (A ++ args))) := (by simpa [strCells, Hid] using hown4); have HT4 : Hid (TxW w w4 c a b tt nm undo (some ad) args.length cap) := ⟨HT3.out.1.trans (hb4.mono (by omega)), (hb4.cell (p := ⟨w.heap.size, 0, none⟩) (by simp)).trans y0, (hb4.cell (p := ⟨w.heap.size, 1, none⟩) (by simp)).trans y1, (hb4.cell (p := ⟨w.heap.size, 2, none⟩) (by simp)).trans y2, (hb4.cell (p := ⟨w.heap.size, 3, none⟩) (by simp)).trans y3, (hb4.cell (p := ⟨w.heap.size, 4, none⟩) (by simp)).trans y4, (hb4.cell (p := ⟨w.heap.size, 5, none⟩) (by simp)).trans y5, (hb4.cell (p := ⟨w.heap.size, 6, none⟩) (by simp)).trans y6⟩; clear hown4 hgrow4 hb4))
    go_meet
    case rel => exact ⟨HT4, HO4⟩
  case rest =>
   obtain ⟨HT4, HO4⟩ := hcut
   clear HT3 HO3 y0 y1 y2 y3 y4 y5 y6 hcA hg3 hlt3 hw3
   obtain ⟨_, y0, y1, y2, y3, y4, y5, y6⟩ := HT4.out
   have hbx : w.heap.size < wc.heap.size := by obtain ⟨x, hx⟩ := z_cP y0; exact (Array.getElem?_eq_some_iff.1 hx).1
   go_wp2_with fail
   refine (z_bL (w.heap.size + 1) _ (A ++ args) undo _ HO4.out (by omega) (by simp; omega)).mono ?_
   rintro e w5 ⟨v5, rfl, hb5, hown5⟩
   have HT5 : Hid (TxW w w5 c a b tt nm undo ao args.length cap) := ⟨HT4.out.1.trans (hb5.mono (by omega)), (hb5.cell (p := ⟨w.heap.size, 0, none⟩) (by simp)).trans y0, (hb5.cell (p := ⟨w.heap.size, 1, none⟩) (by simp)).trans y1, (hb5.cell (p := ⟨w.heap.size, 2, none⟩) (by simp)).trans y2, (hb5.cell (p := ⟨w.heap.size, 3, none⟩) (by simp)).trans y3, (hb5.cell (p := ⟨w.heap.size, 4, none⟩) (by simp)).trans y4, (hb5.cell (p := ⟨w.heap.size, 5, none⟩) (by simp)).trans y5, (hb5.cell (p := ⟨w.heap.size, 6, none⟩) (by simp)).trans y6⟩
   have hw5 : w.heap.size + 1 ≤ w5.heap.size := Nat.le_trans hbx hb5.size
   obtain ⟨B, hB⟩ : ∃ B, B = A ++ args ++ z_co undo := ⟨_, rfl⟩
   rw [← hB] at hown5
   have HO5 : Hid (w5.ownsRow (w.heap.size + 1) 9 1 v5 B.length (strCells B)) := hown5
   rw [← hB] at HN
   have hBl : B.length ≤ 1048582 := by rw [hB]; have := z_ha undo; simp only [List.length_append]; omega
   have hB0 : 0 < B.length := by rw [hB]; simp only [List.length_append]; omega
   clear hb5 hown5 HT4 HO4 y0 y1 y2 y3 y4 y5 y6 hbx hB
   have HJ : Hid ((Lib.join ((B ++ toW c a b).map (·.data.toList)) [32]).length ≤ 140737488355328) := by
    have h9 := z_f4 (c := c) ha hb h1 h2 h3 HZ.out hl
    rw [HN.out] at h9
    have e9 : (z_ca (B ++ toW c a b)).size = (Lib.join ((B ++ toW c a b).map (·.data.toList)) [32]).length := by
     show (List.toArray _).size = _
     simp
    rw [Hid]; omega
   obtain ⟨g5, c5, rfl, hg5, hlt5⟩ := HO5.out.form hB0
   have hc5 := z_bP HO5.out
   by_cases hp : z_mv c
   ·
    have ek : kt = 166 := by rw [HKT.out, z_ia, if_pos hp]
    have ev : kv = .agg #[.string K] := by rw [HKV.out, z_iL, if_pos hp, HK.out]
    have eT : toW c a b = [toT, decW a, decW b] := by unfold toW; exact if_pos (show c = 5 ∨ c = 6 ∨ c = 8 from hp)
    rw [eT] at HJ HN
    have tA := X.leadQ
    have mP := X.placesQ
    subst ek
    subst ev
    clear HKT HKV kw
    obtain ⟨_, y0, y1, y2, y3, y4, y5, y6⟩ := HT5.out
    obtain ⟨P, hP⟩ : ∃ P, P = [a, b] := ⟨_, rfl⟩
    have HP : Hid (P = [a, b]) := hP
    have hP2 : P.length = 2 := by rw [hP]; rfl
    have HP9 : Hid (∀ x ∈ P, x ≤ 1000000000) := by rw [Hid, hP]; intro x hx; simp at hx; omega
    clear hP
    go_wp2_with (at_builtin; go_loud (refine wpList_append_own _ rfl _ _ 45 rfl (w.heap.size + 1) 9 i0 (.string ByteArray.empty) 1 16 Tryz.underlying45 hi0 hz0 hz1 hz2 rfl (by decide) _ _ _ rfl (HO5.out.alloc _) ⟨w5.heap.size, 0, none⟩ 1 1 [.string toT] rfl rfl (cell_one_new _ _ _) (fun u hu => by simp at hu; subst hu; rfl) (by unfold maxLen; omega) (by omega) (by simp; omega) ?_; intro v7 w7 hown7 hgrow7 _; have hb7 := z_b7 HO5.out (Below.refl _ _) ((Below.refl _ _).alloc (Nat.le_refl _) _) (by omega) hgrow7 (by rfl); have HO7 : Hid (w7.ownsRow (w.heap.size + 1) 9 1 v7 (B ++ [toT]).length (strCells (B ++ [toT]))) := (by simpa [strCells, Hid] using hown7); have HT7 : Hid (TxW w w7 c a b tt nm undo ao args.length cap) := ⟨HT5.out.1.trans (hb7.mono (by omega)), (hb7.cell (p := ⟨w.heap.size, 0, none⟩) (by simp)).trans y0, (hb7.cell (p := ⟨w.heap.size, 1, none⟩) (by simp)).trans y1, (hb7.cell (p := ⟨w.heap.size, 2, none⟩) (by simp)).trans y2, (hb7.cell (p := ⟨w.heap.size, 3, none⟩) (by simp)).trans y3, (hb7.cell (p := ⟨w.heap.size, 4, none⟩) (by simp)).trans y4, (hb7.cell (p := ⟨w.heap.size, 5, none⟩) (by simp)).trans y5, (hb7.cell (p := ⟨w.heap.size, 6, none⟩) (by simp)).trans y6⟩; have hw7 : w.heap.size + 1 ≤ w7.heap.size := (by have := hb7.size; omega); obtain ⟨_, z0, z1, z2, z3, z4, z5, z6⟩ := HT7.out; clear hown7 hgrow7 hb7 y0 y1 y2 y3 y4 y5 y6))
    refine (z_jM _ _ _ _ _ _ a b _).mono ?_
    rintro e w8 ⟨g, rfl, hb8, hg0, hg1, hq0, hq1⟩
    obtain ⟨g7, c7, rfl, hg7, hlt7⟩ := HO7.out.form (by simp)
    have HNE : Hid ((Value.slice (some ⟨g7, 0, none⟩) (B ++ [toT]).length c7).ownBlock ≠ some g) := by simp [Hid, Value.ownBlock]; omega
    have HO8 : Hid (w8.ownsRow (w.heap.size + 1) 9 1 (.slice (some ⟨g7, 0, none⟩) (B ++ [toT]).length c7) (B ++ [toT]).length (strCells (B ++ [toT]))) := z_ay HO7.out hb8
    have HB8 : Hid (Below w.heap.size w w8) := HT7.out.1.trans (hb8.mono HT7.out.1.size)
    have hw8 : w.heap.size + 1 ≤ w8.heap.size := by have := hb8.size; omega
    have HC : Hid (∀ k, k < 2 → w8.cell? ⟨g, k, none⟩ = some (.int .i64 ((P.getD k 0 : Nat) : Int))) := by
     intro k hk
     rcases (show k = 0 ∨ k = 1 by omega) with rfl | rfl
     ·rw [HP.out]; exact hq0
     ·rw [HP.out]; exact hq1
    clear hq0 hq1 hb8 z0 z1 z2 z3 z4 z5 z6 HO7 HT7 HO5 HT5
    go_wp2_with fail
    go_loopw [4, 42] (fun v i wr => ∃ k : Nat, k ≤ 2 ∧ i = .int .i64 k ∧ Hid (v.ownBlock ≠ some g) ∧ Hid (wr.ownsRow (w.heap.size + 1) 9 1 v ((B ++ [toT]) ++ (P.take k).map decW).length (strCells ((B ++ [toT]) ++ (P.take k).map decW))) ∧ Hid (Below (w.heap.size + 1) w8 wr) ∧ w8.heap.size ≤ wr.heap.size ∧ Hid (∀ k, k < 2 → wr.cell? ⟨g, k, none⟩ = some (.int .i64 ((P.getD k 0 : Nat) : Int)))) (fun _ i _ => 2 - (intOf i).toNat)
    case atStart => exact ⟨0, Nat.zero_le _, rfl, HNE, by simpa [Hid] using HO8.out, Below.refl _ _, Nat.le_refl _, HC⟩
    case round =>
     obtain ⟨k, hk, rfl, HNE1, HO1, HB1, hws, HC1⟩ := hrel
     clear HC HO8 HNE
     have HBW : Hid (Below w.heap.size w wr) := HB8.out.trans (HB1.out.mono (by omega))
     by_cases hlt : k < 2
     ·have hc1 := HC1.out k hlt
      have hkP : k < P.length := by rw [hP2]; exact hlt
      obtain ⟨p, hp0⟩ : ∃ p, p = P.getD k 0 := ⟨_, rfl⟩
      have hp1 : P[k] = p := by rw [hp0, List.getD_eq_getElem?_getD, List.getElem?_eq_getElem hkP]; rfl
      have hp9 : p ≤ 1000000000 := by rw [← hp1]; exact HP9.out _ (List.getElem_mem hkP)
      have HF : Hid ((B ++ [toT]) ++ (P.take (k + 1)).map decW = ((B ++ [toT]) ++ (P.take k).map decW) ++ [decW p]) := by
       rw [Hid, List.take_succ_eq_append_getElem hkP, List.map_append, hp1]; simp
      have hfl : ((B ++ [toT]) ++ (P.take k).map decW).length ≤ 1048590 := by simp; omega
      obtain ⟨A2, hA2⟩ : ∃ A2, A2 = (B ++ [toT]) ++ (P.take k).map decW := ⟨_, rfl⟩
      rw [← hA2] at HO1 HF hfl
      rw [← hp0] at hc1
      clear hA2 hp0 hp1 hkP
      have HEr : Hid (Env wr) := HE.out.later HBW.out
      go_wp2_with (first | (go_at_call 43; go_loud (refine (z_eH (p : Int) _ (by omega) (by omega) HEr.out).mono ?_; rintro e w9 ⟨rfl, hb9⟩; rw [z_e6]; have HO9 : Hid (w9.ownsRow (w.heap.size + 1) 9 1 u4 A2.length (strCells A2)) := z_ay HO1.out hb9; have HB9 : Hid (Below (w.heap.size + 1) w8 w9) := HB1.out.trans (hb9.mono (by omega)); have hw9 : w8.heap.size ≤ w9.heap.size := Nat.le_trans hws hb9.size; have HC9 : Hid (∀ k, k < 2 → w9.cell? ⟨g, k, none⟩ = some (.int .i64 ((P.getD k 0 : Nat) : Int))) := (fun k hk => (hb9.cell (p := ⟨g, k, none⟩) (by show g < _; omega)).trans (HC1.out k hk)); clear hb9)) | (at_builtin; go_loud (refine wpList_append_lies _ rfl _ _ 45 rfl (w.heap.size + 1) 9 i0 (.string ByteArray.empty) 1 16 Tryz.underlying45 hi0 hz0 hz1 hz2 rfl (by decide) _ _ _ rfl (HO9.out.alloc _) ⟨w9.heap.size, 0, none⟩ 1 1 [.string (decW p)] rfl rfl (cell_one_new _ _ _) (fun u hu => by simp at hu; subst hu; rfl) (by decide) (by unfold maxLen; omega) (by omega) (by simp; omega) (w9.heap.size + 1) (by simp) ?_; intro g' cap' w3' hown' hgrow3 hat3 hlt3'; have X := z_n5 HO9.out HB9.out HNE1.out HC9.out hw9 hg1 (by omega) hown' hgrow3 hat3 (by rfl); clear hown' hgrow3 hat3 hlt3')))
      go_roundw
      case rel => exact ⟨k + 1, by omega, by go_num, X.out.2.2.2.1, (show Hid _ by rw [HF.out]; exact X.out.1), X.out.2.1, X.out.2.2.1, X.out.2.2.2.2⟩
      case measure => simp [intOf]; omega
     ·have e0 : P.take k = P := List.take_of_length_le (by omega)
      rw [e0, HP.out, List.append_assoc] at HO1
      rw [show [toT] ++ List.map decW [a, b] = [toT, decW a, decW b] from rfl] at HO1
      obtain ⟨L9, hL9⟩ : ∃ L9, L9 = B ++ [toT, decW a, decW b] := ⟨_, rfl⟩
      have hLl : L9.length ≤ 1048590 := by rw [hL9]; simp; omega
      have hL0 : 0 < L9.length := by rw [hL9]; simp
      rw [← hL9] at HO1 HJ HN
      clear hL9
      obtain ⟨g9, c9, rfl, hg9, hlt9⟩ := HO1.out.form hL0
      have hc9 := z_bP HO1.out
      have HC9 := z_bq HO1.out
      go_wp2_with fail
      refine (Tryz.strings_Join g9 0 c9 _ ⟨#[32]⟩ _ HC9 hlt9 (by omega) hc9 HJ.out).mono ?_
      rintro e w6 ⟨rfl, hb6⟩
      have HB6 : Below w.heap.size w w6 := HBW.out.trans (hb6.mono HBW.out.size)
      clear hb6
      go_wp2
      go_ret
      exact ⟨by rw [HN.out] <;> rfl, HB6⟩
   ·by_cases hj : z_mR c
    ·
     have ek : kt = 167 := by rw [HKT.out, z_ia, if_neg hp, if_pos hj]
     have ev : kv = .agg #[.string K] := by rw [HKV.out, z_iL, if_neg hp, if_pos hj, HK.out]
     have eT : toW c a b = [toT, decW a] := by unfold toW; exact (if_neg (show ¬(c = 5 ∨ c = 6 ∨ c = 8) from hp)).trans (if_pos (show c = 7 ∨ c = 9 from hj))
     rw [eT] at HJ HN
     have tA := X.leadJ
     have mP := X.placesJ
     subst ek
     subst ev
     clear HKT HKV kw
     obtain ⟨_, y0, y1, y2, y3, y4, y5, y6⟩ := HT5.out
     obtain ⟨P, hP⟩ : ∃ P, P = [a] := ⟨_, rfl⟩
     have HP : Hid (P = [a]) := hP
     have hP2 : P.length = 1 := by rw [hP]; rfl
     have HP9 : Hid (∀ x ∈ P, x ≤ 1000000000) := by rw [Hid, hP]; intro x hx; simp at hx; omega
     clear hP
     go_wp2_with (at_builtin; go_loud (refine wpList_append_own _ rfl _ _ 45 rfl (w.heap.size + 1) 9 i0 (.string ByteArray.empty) 1 16 Tryz.underlying45 hi0 hz0 hz1 hz2 rfl (by decide) _ _ _ rfl (HO5.out.alloc _) ⟨w5.heap.size, 0, none⟩ 1 1 [.string toT] rfl rfl (cell_one_new _ _ _) (fun u hu => by simp at hu; subst hu; rfl) (by unfold maxLen; omega) (by omega) (by simp; omega) ?_; intro v7 w7 hown7 hgrow7 _; have hb7 := z_b7 HO5.out (Below.refl _ _) ((Below.refl _ _).alloc (Nat.le_refl _) _) (by omega) hgrow7 (by rfl); have HO7 : Hid (w7.ownsRow (w.heap.size + 1) 9 1 v7 (B ++ [toT]).length (strCells (B ++ [toT]))) := (by simpa [strCells, Hid] using hown7); have HT7 : Hid (TxW w w7 c a b tt nm undo ao args.length cap) := ⟨HT5.out.1.trans (hb7.mono (by omega)), (hb7.cell (p := ⟨w.heap.size, 0, none⟩) (by simp)).trans y0, (hb7.cell (p := ⟨w.heap.size, 1, none⟩) (by simp)).trans y1, (hb7.cell (p := ⟨w.heap.size, 2, none⟩) (by simp)).trans y2, (hb7.cell (p := ⟨w.heap.size, 3, none⟩) (by simp)).trans y3, (hb7.cell (p := ⟨w.heap.size, 4, none⟩) (by simp)).trans y4, (hb7.cell (p := ⟨w.heap.size, 5, none⟩) (by simp)).trans y5, (hb7.cell (p := ⟨w.heap.size, 6, none⟩) (by simp)).trans y6⟩; have hw7 : w.heap.size + 1 ≤ w7.heap.size := (by have := hb7.size; omega); obtain ⟨_, z0, z1, z2, z3, z4, z5, z6⟩ := HT7.out; clear hown7 hgrow7 hb7 y0 y1 y2 y3 y4 y5 y6))
     refine (z_jd _ _ _ _ _ _ _ a _).mono ?_
     rintro e w8 ⟨g, rfl, hb8, hg0, hg1, hq0⟩
     obtain ⟨g7, c7, rfl, hg7, hlt7⟩ := HO7.out.form (by simp)
     have HNE : Hid ((Value.slice (some ⟨g7, 0, none⟩) (B ++ [toT]).length c7).ownBlock ≠ some g) := by simp [Hid, Value.ownBlock]; omega
     have HO8 : Hid (w8.ownsRow (w.heap.size + 1) 9 1 (.slice (some ⟨g7, 0, none⟩) (B ++ [toT]).length c7) (B ++ [toT]).length (strCells (B ++ [toT]))) := z_ay HO7.out hb8
     have HB8 : Hid (Below w.heap.size w w8) := HT7.out.1.trans (hb8.mono HT7.out.1.size)
     have hw8 : w.heap.size + 1 ≤ w8.heap.size := by have := hb8.size; omega
     have HC : Hid (∀ k, k < 1 → w8.cell? ⟨g, k, none⟩ = some (.int .i64 ((P.getD k 0 : Nat) : Int))) := by
      intro k hk
      have : k = 0 := by omega
      subst this; rw [HP.out]; exact hq0
     clear hq0 hb8 z0 z1 z2 z3 z4 z5 z6 HO7 HT7 HO5 HT5
     go_wp2_with fail
     go_loopw [4, 42] (fun v i wr => ∃ k : Nat, k ≤ 1 ∧ i = .int .i64 k ∧ Hid (v.ownBlock ≠ some g) ∧ Hid (wr.ownsRow (w.heap.size + 1) 9 1 v ((B ++ [toT]) ++ (P.take k).map decW).length (strCells ((B ++ [toT]) ++ (P.take k).map decW))) ∧ Hid (Below (w.heap.size + 1) w8 wr) ∧ w8.heap.size ≤ wr.heap.size ∧ Hid (∀ k, k < 1 → wr.cell? ⟨g, k, none⟩ = some (.int .i64 ((P.getD k 0 : Nat) : Int)))) (fun _ i _ => 1 - (intOf i).toNat)
     case atStart => exact ⟨0, Nat.zero_le _, rfl, HNE, by simpa [Hid] using HO8.out, Below.refl _ _, Nat.le_refl _, HC⟩
     case round =>
      obtain ⟨k, hk, rfl, HNE1, HO1, HB1, hws, HC1⟩ := hrel
      clear HC HO8 HNE
      have HBW : Hid (Below w.heap.size w wr) := HB8.out.trans (HB1.out.mono (by omega))
      by_cases hlt : k < 1
      ·have hc1 := HC1.out k hlt
       have hkP : k < P.length := by rw [hP2]; exact hlt
       obtain ⟨p, hp0⟩ : ∃ p, p = P.getD k 0 := ⟨_, rfl⟩
       have hp1 : P[k] = p := by rw [hp0, List.getD_eq_getElem?_getD, List.getElem?_eq_getElem hkP]; rfl
       have hp9 : p ≤ 1000000000 := by rw [← hp1]; exact HP9.out _ (List.getElem_mem hkP)
       have HF : Hid ((B ++ [toT]) ++ (P.take (k + 1)).map decW = ((B ++ [toT]) ++ (P.take k).map decW) ++ [decW p]) := by
        rw [Hid, List.take_succ_eq_append_getElem hkP, List.map_append, hp1]; simp
       have hfl : ((B ++ [toT]) ++ (P.take k).map decW).length ≤ 1048590 := by simp; omega
       obtain ⟨A2, hA2⟩ : ∃ A2, A2 = (B ++ [toT]) ++ (P.take k).map decW := ⟨_, rfl⟩
       rw [← hA2] at HO1 HF hfl
       rw [← hp0] at hc1
       clear hA2 hp0 hp1 hkP
       have HEr : Hid (Env wr) := HE.out.later HBW.out
       go_wp2_with (first | (go_at_call 43; go_loud (refine (z_eH (p : Int) _ (by omega) (by omega) HEr.out).mono ?_; rintro e w9 ⟨rfl, hb9⟩; rw [z_e6]; have HO9 : Hid (w9.ownsRow (w.heap.size + 1) 9 1 u4 A2.length (strCells A2)) := z_ay HO1.out hb9; have HB9 : Hid (Below (w.heap.size + 1) w8 w9) := HB1.out.trans (hb9.mono (by omega)); have hw9 : w8.heap.size ≤ w9.heap.size := Nat.le_trans hws hb9.size; have HC9 : Hid (∀ k, k < 1 → w9.cell? ⟨g, k, none⟩ = some (.int .i64 ((P.getD k 0 : Nat) : Int))) := (fun k hk => (hb9.cell (p := ⟨g, k, none⟩) (by show g < _; omega)).trans (HC1.out k hk)); clear hb9)) | (at_builtin; go_loud (refine wpList_append_lies _ rfl _ _ 45 rfl (w.heap.size + 1) 9 i0 (.string ByteArray.empty) 1 16 Tryz.underlying45 hi0 hz0 hz1 hz2 rfl (by decide) _ _ _ rfl (HO9.out.alloc _) ⟨w9.heap.size, 0, none⟩ 1 1 [.string (decW p)] rfl rfl (cell_one_new _ _ _) (fun u hu => by simp at hu; subst hu; rfl) (by decide) (by unfold maxLen; omega) (by omega) (by simp; omega) (w9.heap.size + 1) (by simp) ?_; intro g' cap' w3' hown' hgrow3 hat3 hlt3'; have X := z_n5 HO9.out HB9.out HNE1.out HC9.out hw9 hg1 (by omega) hown' hgrow3 hat3 (by rfl); clear hown' hgrow3 hat3 hlt3')))
       go_roundw
       case rel => exact ⟨k + 1, by omega, by go_num, X.out.2.2.2.1, (show Hid _ by rw [HF.out]; exact X.out.1), X.out.2.1, X.out.2.2.1, X.out.2.2.2.2⟩
       case measure => simp [intOf]; omega
      ·have e0 : P.take k = P := List.take_of_length_le (by omega)
       rw [e0, HP.out, List.append_assoc] at HO1
       rw [show [toT] ++ List.map decW [a] = [toT, decW a] from rfl] at HO1
       obtain ⟨L9, hL9⟩ : ∃ L9, L9 = B ++ [toT, decW a] := ⟨_, rfl⟩
       have hLl : L9.length ≤ 1048590 := by rw [hL9]; simp; omega
       have hL0 : 0 < L9.length := by rw [hL9]; simp
       rw [← hL9] at HO1 HJ HN
       clear hL9
       obtain ⟨g9, c9, rfl, hg9, hlt9⟩ := HO1.out.form hL0
       have hc9 := z_bP HO1.out
       have HC9 := z_bq HO1.out
       go_wp2_with fail
       refine (Tryz.strings_Join g9 0 c9 _ ⟨#[32]⟩ _ HC9 hlt9 (by omega) hc9 HJ.out).mono ?_
       rintro e w6 ⟨rfl, hb6⟩
       have HB6 : Below w.heap.size w w6 := HBW.out.trans (hb6.mono HBW.out.size)
       clear hb6
       go_wp2
       go_ret
       exact ⟨by rw [HN.out] <;> rfl, HB6⟩
    ·have ek : kt = 164 := by rw [HKT.out, z_ia, if_neg hp, if_neg hj]
     have ev : kv = .string K := by rw [HKV.out, z_iL, if_neg hp, if_neg hj, HK.out]
     have eT : toW c a b = [] := by unfold toW; exact (if_neg (show ¬(c = 5 ∨ c = 6 ∨ c = 8) from hp)).trans (if_neg (show ¬(c = 7 ∨ c = 9) from hj))
     rw [eT, List.append_nil] at HJ HN
     have HC5 := z_bq HO5.out
     have tA := X.leadP
     subst ek
     subst ev
     clear HKT HKV kw
     go_wp2_with fail
     refine (Tryz.strings_Join g5 0 c5 B ⟨#[32]⟩ w5 HC5 hlt5 (by omega) hc5 HJ.out).mono ?_
     rintro e w6 ⟨rfl, hb6⟩
     have HB6 : Below w.heap.size w w6 := HT5.out.1.trans (hb6.mono HT5.out.1.size)
     clear hb6
     go_wp2
     go_ret
     exact ⟨by rw [HN.out] <;> rfl, HB6⟩
end
end Go.Proofs.YtlbjjbolbopfmaaGreatDoor
