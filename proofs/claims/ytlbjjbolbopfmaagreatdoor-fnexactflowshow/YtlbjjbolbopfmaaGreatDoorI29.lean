import Derived.Test.YtlbjjbolbopfmaaGreatDoorI00
import Derived.Test.YtlbjjbolbopfmaaGreatDoorI25
import Derived.Deep.RegionHeld3
import Derived.Test.YtlbjjbolbopfmaaGreatDoorI27
import Derived.Test.YtlbjjbolbopfmaaGreatDoorI28
import Derived.Test.YtlbjjbolbopfmaaGreatDoorI19
import Derived.Test.YtlbjjbolbopfmaaGreatDoorI26
namespace Go.Proofs.YtlbjjbolbopfmaaGreatDoor
set_option maxHeartbeats 60000000
set_option maxRecDepth 1000000
set_option linter.unusedVariables false
section
open Go.RowKit
set_option linter.unusedSimpArgs false
theorem z_gQ (g off c : Nat) (a b x : ByteArray) (y : ByteArray) (w : World) (hc : 4 ≤ c) (hz : ∀ s ∈ [a, b, x, y], s.size ≤ 4398046511104) (hi : StrsAt 0 w.heap.size w (some ⟨g, off, none⟩) ([a, b, x, y])) (ha : z_ac a = true) (hh : hasB opsS b = true) (hi2 : (b.toList == [105, 115]) = false) (ho : allB z_an [x, y] = true) :
  Calls Tryz.prog 171 #[.int .i64 (2 : Nat), .slice (some ⟨g, off, none⟩) (4) c] w (z_bg w (2 : Nat) ([a, b, x, y])) := by
 have HN : Hid (z_af ((2 : Nat) : Int) [a, b, x, y] = some ⟨a, b, [x, y], eS⟩) := by show pLet [a, b, x, y] = _; rw [pLet]; exact if_pos ⟨ha, ho, by rw [z_ml hh hi2]; rfl⟩
 have za := hz a (by simp)
 obtain ⟨_, _, e0, hB, k0⟩ := hi.at 0 (by simp)
 cases e0
 have c0 : w.cell? ⟨g, off, none⟩ = some (.string a) := k0
 obtain ⟨_, _, e1, _, k1⟩ := hi.at 1 (by simp)
 cases e1
 have c1 : w.cell? ⟨g, off + 1, none⟩ = some (.string b) := k1
 have hb0 : g < w.heap.size := hB.2
 have hi3 : (b.toList != [105, 115]) = true := by rw [bne, hi2]; rfl
 have HZ : Hid (∀ s ∈ [x, y], s.size ≤ 9223372036854775807) := fun s hs => by have := hz s (by simp at hs ⊢; rcases hs with h | h <;> simp [h]); omega
 have HD : Hid (StrsAt 0 w.heap.size w (some ⟨g, off + 2, none⟩) [x, y]) := hi.drop 2
 have hc2 : ¬ c = 2 := by omega
 clear hi hz k0 k1
 go_enter Tryz.func171, Tryz.ntmps171
 go_wp2_with fail
 refine wp_region_held_drew (S := (fun w' => w'.cell? ⟨g, off, none⟩ = some (.string a) ∧ w'.cell? ⟨g, off + 1, none⟩ = some (.string b))) (by kernel_rfl) ?_ (fun hHeld => ?_)
 ·try dsimp only
  first | assumption | (go_keep; done)
 refine tkL 0 ?_
 try simp only [Act.put, nA, nB, nC, nD, nE, nF]
 refine tkL 1 ?_
 try simp only [Act.put, nA, nB, nC, nD, nE, nF]
 refine tkL 2 ?_
 try simp only [Act.put, nA, nB, nC, nD, nE, nF]
 refine tkL 3 ?_
 try simp only [Act.put, nA, nB, nC, nD, nE, nF]
 refine tkL 4 ?_
 try simp only [Act.put, nA, nB, nC, nD, nE, nF]
 refine tkL 5 ?_
 try simp only [Act.put, nA, nB, nC, nD, nE, nF]
 refine wpAnyH_ready (rs := [6]) (by kernel_rfl) (by simp) ?_
 refine AllReadyH.cons rfl (fun K hK => ?_) AllReadyH.nil
 go_simp
 go_wp2_with (go_at_call 140; refine (z_a a _ (by omega)).mono ?_; rintro e wx ⟨rfl, rfl⟩; rw [ha])
 refine hK.out _ _ ?_ (fun hHeld => ?_)
 ·try dsimp only
  first | assumption | (go_keep; done)
 clear hK K
 try simp only [Act.put, nA, nB, nC, nD, nE, nF]
 refine tkL 7 ?_
 try simp only [Act.put, nA, nB, nC, nD, nE, nF]
 refine tkL 8 ?_
 try simp only [Act.put, nA, nB, nC, nD, nE, nF]
 refine tkL 9 ?_
 try simp only [Act.put, nA, nB, nC, nD, nE, nF]
 refine tkL 11 ?_
 try simp only [Act.put, nA, nB, nC, nD, nE, nF]
 refine tkL 12 ?_
 try simp only [Act.put, nA, nB, nC, nD, nE, nF]
 refine tkL 13 ?_
 try simp only [Act.put, nA, nB, nC, nD, nE, nF]
 refine wpAnyH_ready (rs := [10]) (by kernel_rfl) (by simp) ?_
 refine AllReadyH.cons rfl (fun K hK => ?_) AllReadyH.nil
 go_simp
 go_wp2_with (go_at_call 196; refine (z_cd _).mono ?_; rintro e w1 ⟨rfl, hb1, hs1⟩; obtain ⟨HB1, HS1, ⟨hz1, hz2⟩, ⟨r0, r1, r2, r3, r4⟩, ⟨s0, s1, s2, s3, s4⟩, f0, f1⟩ := z_bz hb1 hs1; have d0 := (HB1.out.cell (p := ⟨g, off, none⟩) hb0).trans c0; have d1 := (HB1.out.cell (p := ⟨g, off + 1, none⟩) hb0).trans c1; clear hb1 hs1)
 refine hK.out _ _ ?_ (fun hHeld => ?_)
 ·try dsimp only
  first | assumption | exact ⟨d0, d1⟩ | (go_keep; done)
 clear hK K
 try simp only [Act.put, nA, nB, nC, nD, nE, nF]
 refine wpAnyH_ready (rs := [14]) (by kernel_rfl) (by simp) ?_
 refine AllReadyH.cons rfl (fun K hK => ?_) AllReadyH.nil
 go_simp
 go_wp2_with (go_at_call 141; refine (z_aF _ 4 opsS b _ _ (by decide) HS1.out).mono ?_; rintro e w2 ⟨rfl, rfl⟩; rw [hh])
 refine hK.out _ _ ?_ (fun hHeld => ?_)
 ·try dsimp only
  first | assumption | exact ⟨d0, d1⟩ | (go_keep; done)
 clear hK K
 try simp only [Act.put, nA, nB, nC, nD, nE, nF]
 refine tkL 15 ?_
 try simp only [Act.put, nA, nB, nC, nD, nE, nF]
 refine tkL 16 ?_
 try simp only [Act.put, nA, nB, nC, nD, nE, nF]
 refine tkL 17 ?_
 try simp only [Act.put, nA, nB, nC, nD, nE, nF]
 refine tkL 18 ?_
 try simp only [Act.put, nA, nB, nC, nD, nE, nF]
 refine tkL 19 ?_
 try simp only [Act.put, nA, nB, nC, nD, nE, nF]
 refine tkL 20 ?_
 try simp only [Act.put, nA, nB, nC, nD, nE, nF]
 refine tkR 21 ?_
 try simp only [Act.put, nA, nB, nC, nD, nE, nF]
 refine tkR 22 ?_
 try simp only [Act.put, nA, nB, nC, nD, nE, nF]
 refine tkR 23 ?_
 try simp only [Act.put, nA, nB, nC, nD, nE, nF]
 refine tkR 24 ?_
 try simp only [Act.put, nA, nB, nC, nD, nE, nF]
 refine tkL 25 ?_
 try simp only [Act.put, nA, nB, nC, nD, nE, nF]
 refine tkL 26 ?_
 try simp only [Act.put, nA, nB, nC, nD, nE, nF]
 refine tkL 27 ?_
 try simp only [Act.put, nA, nB, nC, nD, nE, nF]
 refine tkL 28 ?_
 try simp only [Act.put, nA, nB, nC, nD, nE, nF]
 refine tkL 29 ?_
 try simp only [Act.put, nA, nB, nC, nD, nE, nF]
 refine tkL 30 ?_
 try simp only [Act.put, nA, nB, nC, nD, nE, nF]
 refine tkL 31 ?_
 try simp only [Act.put, nA, nB, nC, nD, nE, nF]
 refine tkL 32 ?_
 try simp only [Act.put, nA, nB, nC, nD, nE, nF]
 refine tkL 33 ?_
 try simp only [Act.put, nA, nB, nC, nD, nE, nF]
 refine tkL 34 ?_
 try simp only [Act.put, nA, nB, nC, nD, nE, nF]
 refine tkL 35 ?_
 try simp only [Act.put, nA, nB, nC, nD, nE, nF]
 refine tkL 36 ?_
 try simp only [Act.put, nA, nB, nC, nD, nE, nF]
 refine tkL 37 ?_
 try simp only [Act.put, nA, nB, nC, nD, nE, nF]
 refine tkL 38 ?_
 try simp only [Act.put, nA, nB, nC, nD, nE, nF]
 refine tkL 39 ?_
 try simp only [Act.put, nA, nB, nC, nD, nE, nF]
 refine wpAnyH_ready (rs := [40]) (by kernel_rfl) (by simp) ?_
 refine AllReadyH.cons rfl (fun K hK => ?_) AllReadyH.nil
 go_simp
 go_wp2_with (go_at_call 197; refine (z_aU (some ⟨g, off + 2, none⟩) (c - 2) [x, y] w.heap.size _ (by simp) HZ.out (HD.out.below HB1.out)).mono ?_; rintro e wx ⟨rfl, rfl⟩; rw [ho])
 refine hK.out _ _ ?_ (fun hHeld => ?_)
 ·try dsimp only
  first | assumption | exact ⟨d0, d1⟩ | (go_keep; done)
 clear hK K
 try simp only [Act.put, nA, nB, nC, nD, nE, nF]
 refine tkL 41 ?_
 try simp only [Act.put, nA, nB, nC, nD, nE, nF]
 refine tkL 42 ?_
 try simp only [Act.put, nA, nB, nC, nD, nE, nF]
 refine wpAnyH_done (by kernel_rfl) ?_ _
 all_goals
  go_wp2_with fail
  refine bodyPost_ret (v := .tuple #[.agg #[.int .i64 _, .string a, .string b, .slice (some ⟨g, off + 2, none⟩) 2 (c - 2), .string ⟨#[]⟩], .bool true]) (by simp [results, Tryz.results171, go_sem, r0, r1, r2, r3, r4]; rfl) rfl ?_
  have hX : Below w.heap.size w (((wx.setCell ⟨w.heap.size + 1, 1, none⟩ (.string a)).setCell ⟨w.heap.size + 1, 2, none⟩ (.string b)).setCell ⟨w.heap.size + 1, 3, none⟩ (.slice (some ⟨g, off + 2, none⟩) 2 (c - 2))) := ((HB1.out.setCell (p := ⟨w.heap.size + 1, 1, none⟩) (Nat.le_succ w.heap.size) _).setCell (p := ⟨w.heap.size + 1, 2, none⟩) (Nat.le_succ w.heap.size) _).setCell (p := ⟨w.heap.size + 1, 3, none⟩) (Nat.le_succ w.heap.size) _
  refine z_bH (args := [x, y]) ?_ (by simp; omega) ?_ HN.out (by simp)
  ·exact z_az hX _ _ _ _ _
  ·exact (HD.out.below (z_az hX _ _ _ _ _)).mono (Nat.le_refl _) (z_az hX _ _ _ _ _).size
end
section
open Go.RowKit
theorem z_kV (ao : Option Addr) (c : Nat) (ws : List ByteArray) (w : World) (hl : ws.length ≤ 4398046511000) (hc : ws.length ≤ c) (hz : ∀ s ∈ ws, s.size ≤ 4398046511104) (hi : StrsAt 0 w.heap.size w ao ws) :
  Calls Tryz.prog 171 #[.int .i64 (2 : Nat), .slice ao ws.length c] w (z_bg w (2 : Nat) ws) := by
 by_cases h3 : ws.length < 3
 ·exact z_fO ao c ws w h3
 match ws, h3, hl, hc, hz, hi with
 | [], h, _, _, _, _ => exact absurd (by simp) h
 | [_], h, _, _, _, _ => exact absurd (by simp) h
 | [_, _], h, _, _, _, _ => exact absurd (by simp) h
 | a :: b :: x :: r, _, hl, hc, hz, hi =>
  obtain ⟨g, off, rfl, _⟩ := hi.at 0 (by simp)
  have el : (a :: b :: x :: r).length = r.length + 3 := by simp
  rw [el] at hl hc ⊢
  have hl2 : r.length ≤ 4398046511000 := by omega
  cases ha : z_ac a with
  | false => exact z_iw g off c a b x r hl2 w hc hz hi ha
  | true =>
   cases hh : hasB opsS b with
   | false => exact z_in g off c a b x r hl2 w hc hz hi ha hh
   | true =>
    cases h2 : (b.toList == [105, 115]) with
    | true =>
     by_cases hr : r.length = 0
     ·have : r = [] := List.length_eq_zero_iff.1 hr
      subst this
      cases ho : allB z_an [x] with
      | false => exact z_gw g off c a b x w hc hz hi ha h2 ho
      | true => exact z_hi g off c a b x w hc hz hi ha h2 ho
     ·cases q4 : ((r.length : Int) + 3 != 4) with
      | false => exact z_g2 g off c a b x r hl2 w hc hz hi ha h2 hr q4
      | true => exact z_gC g off c a b x r hl2 w hc hz hi ha h2 hr q4
    | false =>
     by_cases hr : r.length = 1
     ·obtain ⟨y, rfl⟩ := List.length_eq_one_iff.1 hr
      cases ho : allB z_an [x, y] with
      | false => exact z_hv g off c a b x y w hc hz hi ha hh h2 ho
      | true => exact z_gQ g off c a b x y w hc hz hi ha hh h2 ho
     ·exact z_iQ g off c a b x r hl2 w hc hz hi ha hh h2 hr
theorem z_kK (k : Nat) (h1 : 1 ≤ k) (h15 : k ≤ 15) (ao : Option Addr) (c : Nat) (ws : List ByteArray) (w : World) (hl : ws.length ≤ 4398046511000) (hc : ws.length ≤ c) (hz : ∀ s ∈ ws, s.size ≤ 4398046511104) (hi : StrsAt 0 w.heap.size w ao ws) :
  Calls Tryz.prog 171 #[.int .i64 k, .slice ao ws.length c] w (z_bg w k ws) := by
 have hz2 : ∀ s ∈ ws, s.size ≤ 9223372036854775807 := fun s hs => by have := hz s hs; omega
 by_cases e1 : k = 1
 ·subst e1; exact z_i8 ao c ws w hl hc hz hi
 by_cases e2 : k = 2
 ·subst e2; exact z_kV ao c ws w hl hc hz hi
 by_cases e3 : k = 3
 ·subst e3; exact z_lN ao c ws w hl hc hz hi
 by_cases e5 : k = 5
 ·subst e5; exact z_kM ao c ws w hl hc hz hi
 by_cases e6 : k = 6 ∨ k = 8
 ·exact z_jo k e6 ao c ws w hl hc hz hi
 by_cases e4 : k = 4 ∨ k = 12 ∨ k = 13
 ·by_cases hn : ws.length = 1
  ·exact z_dE k e4 ao c ws w hl hn hc hz2 hi
  ·exact z_dv k e4 ao c ws w hl hn hc hi
 by_cases e14 : k = 14
 ·subst e14; exact z_ih ao c ws w hl hz hi
 by_cases e15 : k = 15
 ·subst e15; exact z_jC ao c ws w hl hc hz2 hi
 exact z_fJ k (by omega) ao c ws w hl
end
section
open Go.RowKit
def FillB (q : Nat) (w : World) (nb na i : Nat) : Prop := w.heap[nb]? = some (.cells #[.pointer (some ⟨q, 0, none⟩)] 200 (0, 0)) ∧ w.heap[na]? = some (.cells #[.int .i64 i] 3 (0, 0))
section
variable {q base : Nat} {lo : Option Addr} {cap : Nat} {ls : List Ln} {w w' w'' : World} {at_ nb na i : Nat} {v v' : Value} {ps : List (Stp × Value)}
theorem MkSt.other (hm : MkSt q base lo cap ls w at_ v ps) {k : Nat} {cs : Array Value} {t : TypeId} {f : Nat × Nat} (hk : w.heap[k]? = some (.cells cs t f)) (h1 : t ≠ 67) (h2 : t ≠ 52) : k < w.heap.size ∧ k ≠ q ∧ v.ownBlock ≠ some k := by
 refine ⟨(Array.getElem?_eq_some_iff.1 hk).1, fun e => ?_, fun e => ?_⟩
 ·subst e
  have h := hm.obj
  rw [hk] at h
  simp at h
  exact h1 h.2.1
 ·rcases hm.own.row.2 with ⟨rfl, _⟩ | ⟨g, vc, cur, rfl, _, hg, _⟩
  ·simp [Value.ownBlock] at e
  ·simp [Value.ownBlock] at e
   subst e
   rw [hk] at hg
   simp at hg
   exact h2 hg.2.1
theorem FillB.blk (h : FillB q w nb na i) (hm : MkSt q base lo cap ls w at_ v ps) : (nb < w.heap.size ∧ nb ≠ q ∧ v.ownBlock ≠ some nb) ∧ (na < w.heap.size ∧ na ≠ q ∧ v.ownBlock ≠ some na) :=
 ⟨hm.other h.1 (by decide) (by decide), hm.other h.2 (by decide) (by decide)⟩
theorem FillB.keep (h : FillB q w nb na i) (hm : MkSt q base lo cap ls w at_ v ps) (hk : Wk q v.ownBlock w w') : FillB q w' nb na i := by
 obtain ⟨⟨a1, a2, a3⟩, ⟨b1, b2, b3⟩⟩ := h.blk hm
 exact ⟨(hk.block nb a1 a2 (fun e => a3 e.symm)).trans h.1, (hk.block na b1 b2 (fun e => b3 e.symm)).trans h.2⟩
theorem FillB.below (h : FillB q w nb na i) (hb : Below w.heap.size w w') : FillB q w' nb na i :=
 ⟨(hb.block nb (Array.getElem?_eq_some_iff.1 h.1).1).trans h.1, (hb.block na (Array.getElem?_eq_some_iff.1 h.2).1).trans h.2⟩
theorem FillB.c0 (h : FillB q w nb na i) : w.cell? ⟨nb, 0, none⟩ = some (.pointer (some ⟨q, 0, none⟩)) := by rw [cell_of_row _ _ 0 _ _ _ h.1]; rfl
theorem FillB.c1 (h : FillB q w nb na i) : w.cell? ⟨na, 0, none⟩ = some (.int .i64 i) := by rw [cell_of_row _ _ 0 _ _ _ h.2]; rfl
theorem MkSt.set2 (h : MkSt q base lo cap ls w at_ v ps) (n : Nat) : MkSt q base lo cap ls (w.setCell ⟨q, 2, none⟩ (.int .i64 n)) n v ps :=
 ⟨heap_setCell_same w q 2 _ _ _ h.obj, h.own.keep fun k hk => Below.heap_setCell w _ _ k (fun e => by have h1 : k = q := e; have := (h.own.lt hk).1; have := h.qb; omega), h.lines.below ((Below.refl q w).setCell (p := ⟨q, 2, none⟩) (Nat.le_refl q) _), h.qb, by simpa [World.setCell] using h.bw⟩
end
theorem z_lF {α : Type} (ps qs : List α) (x : α) : ps.length < (ps ++ x :: qs).length := by simp
theorem z_ja {α : Type} (ps qs : List α) (x : α) (h : ps.length < (ps ++ x :: qs).length) : (ps ++ x :: qs)[ps.length] = x := by
 rw [List.getElem_append_right (Nat.le_refl _)]; simp
theorem z_g0 {α : Type} (ps qs : List α) (x y : α) : (ps ++ x :: qs).set ps.length y = ps ++ y :: qs := by
 rw [List.set_append_right _ _ (Nat.le_refl _)]; simp
def z_l8 (q base : Nat) (lo : Option Addr) (cap : Nat) (ls : List Ln) (at_ : Nat) (v : Value) (w : World) (ps : List (Stp × Value)) (e : Ending) (w' : World) : Prop :=
 e = .returned (.tuple #[]) ∧ MkSt q base lo cap ls w' at_ v ps ∧ Wk q v.ownBlock w w'
theorem z_cn (q base : Nat) (lo : Option Addr) (cap : Nat) (ls : List Ln) (at_ : Nat) (v : Value) (ps qs : List (Stp × Value)) (x : Stp × Value) (nb na : Nat) (p : Int) (w : World) (h : MkSt q base lo cap ls w at_ v (ps ++ x :: qs)) (hf : FillB q w nb na ps.length) (hl : (ps ++ x :: qs).length ≤ 1048576) :
  Calls Tryz.prog 146 #[.int .i64 p, .pointer (some ⟨nb, 0, none⟩), .pointer (some ⟨na, 0, none⟩)] w (z_l8 q base lo cap ls at_ v w (ps ++ (setA x.1 p, x.2) :: qs)) := by
 refine (z_l9 q base lo cap ls at_ v _ nb na ps.length p w h hl (z_lF _ _ _) hf.c0 hf.c1).mono ?_
 rintro e w' ⟨rfl, h1, h2⟩
 rw [z_ja, z_g0] at h1
 exact ⟨rfl, h1, h2⟩
theorem z_dO (q base : Nat) (lo : Option Addr) (cap : Nat) (ls : List Ln) (at_ : Nat) (v : Value) (ps qs : List (Stp × Value)) (x : Stp × Value) (nb na : Nat) (p : Int) (w : World) (h : MkSt q base lo cap ls w at_ v (ps ++ x :: qs)) (hf : FillB q w nb na ps.length) (hl : (ps ++ x :: qs).length ≤ 1048576) :
  Calls Tryz.prog 147 #[.int .i64 p, .pointer (some ⟨nb, 0, none⟩), .pointer (some ⟨na, 0, none⟩)] w (z_l8 q base lo cap ls at_ v w (ps ++ (setB x.1 p, x.2) :: qs)) := by
 refine (z_lQ q base lo cap ls at_ v _ nb na ps.length p w h hl (z_lF _ _ _) hf.c0 hf.c1).mono ?_
 rintro e w' ⟨rfl, h1, h2⟩
 rw [z_ja, z_g0] at h1
 exact ⟨rfl, h1, h2⟩
def z_m6 (q base : Nat) (lo : Option Addr) (cap : Nat) (ls : List Ln) (at_ : Nat) (v : Value) (w : World) (ps : List (Stp × Value)) (s : Stp) (u : Value) (e : Ending) (w' : World) : Prop :=
 ∃ (v' : Value) (nb na : Nat), e = .returned (.tuple #[.func (.func 146) #[] #[.pointer (some ⟨nb, 0, none⟩), .pointer (some ⟨na, 0, none⟩)], .func (.func 147) #[] #[.pointer (some ⟨nb, 0, none⟩), .pointer (some ⟨na, 0, none⟩)]])
  ∧ MkSt q base lo cap ls w' at_ v' (ps ++ [(s, u)]) ∧ Wk q v.ownBlock w w' ∧ RowTo w v v' ∧ FillB q w' nb na ps.length
theorem z_e5 (q base : Nat) (lo : Option Addr) (cap : Nat) (ls : List Ln) (at_ : Nat) (v : Value) (ps : List (Stp × Value)) (s : Stp) (uo : Option Addr) (uc : Nat) (w : World) (h : MkSt q base lo cap ls w at_ v ps) (hl : ps.length ≤ 100000)
  (hu : w.ownsRow base 9 1 (.slice uo s.args.length uc) s.args.length (strCells s.args)) (hap : ∀ p ∈ ps, ∀ k, p.2.ownBlock = some k → (Value.slice uo s.args.length uc).ownBlock ≠ some k) :
  Calls Tryz.prog 107 #[.pointer (some ⟨q, 0, none⟩), .agg #[.int .i64 s.code, .string s.to, .string s.name, .slice uo s.args.length uc, .string s.undo, .int .i64 s.a, .int .i64 s.b]] w (z_m6 q base lo cap ls at_ v w ps s (.slice uo s.args.length uc)) := by
 refine (z_nt q base lo cap ls at_ v ps s uo uc w h hl hu hap).mono ?_
 rintro e w' ⟨v', rfl, h1, h2, h3, h4, h5, h6⟩
 exact ⟨v', _, _, rfl, h1, h2, h3, h4, h5⟩
theorem z_eE (q base : Nat) (lo : Option Addr) (cap : Nat) (ls : List Ln) (at_ : Nat) (v : Value) (ps : List (Stp × Value)) (c : Int) (w : World) (h : MkSt q base lo cap ls w at_ v ps) (hl : ps.length ≤ 100000) :
  Calls Tryz.prog 107 #[.pointer (some ⟨q, 0, none⟩), .agg #[.int .i64 c, .string ⟨#[]⟩, .string ⟨#[]⟩, .slice none 0 0, .string ⟨#[]⟩, .int .i64 0, .int .i64 0]] w (z_m6 q base lo cap ls at_ v w ps (z_ap c 0) (.slice none 0 0)) :=
 z_e5 q base lo cap ls at_ v ps (z_ap c 0) none 0 w h hl (World.ownsRow_nil _ _ _ _) (fun p hp k hk e => by simp [Value.ownBlock] at e)
end
section
open Go.RowKit
theorem z_cv (q base : Nat) (lo : Option Addr) (cap : Nat) (ls : List Ln) (at_ : Nat) (v : Value) (ps : List (Stp × Value)) (n : Nat) (w : World) (h : MkSt q base lo cap ls w at_ v ps) (hn : ps.length = n) (hl : n ≤ 1048576) :
  Calls Tryz.prog 106 #[.pointer (some ⟨q, 0, none⟩)] w fun e w' => e = .returned (.int .i64 n) ∧ w' = w := by
 subst hn; exact z_j4 q base lo cap ls at_ v ps w h hl
def BlkOK (q base : Nat) (lo : Option Addr) (cap : Nat) (ls : List Ln) (F at_ at2 N : Nat) (f : Nat → List Stp) : Prop :=
 ∀ (w : World) (v : Value) (ps : List (Stp × Value)), MkSt q base lo cap ls w at_ v ps → ps.length ≤ N → Calls Tryz.prog F #[.pointer (some ⟨q, 0, none⟩)] w fun e w' =>
  e = .returned (.tuple #[]) ∧ ∃ (v' : Value) (qs : List (Stp × Value)), qs.map (·.1) = f ps.length ∧ MkSt q base lo cap ls w' at2 v' (ps ++ qs) ∧ Wk q v.ownBlock w w' ∧ RowTo w v v'
def z_nH (q base : Nat) (lo : Option Addr) (cap : Nat) (ls : List Ln) (at3 : Nat) (v : Value) (w : World) (ps : List (Stp × Value)) (x : Stp × Value) (qs : List (Stp × Value)) (d : Nat) (f : Nat → List Stp) (e : Ending) (w' : World) : Prop :=
 e = .returned (.tuple #[]) ∧ ∃ (v' : Value) (rs : List (Stp × Value)), rs.map (·.1) = f (ps.length + 1 + qs.length) ∧ MkSt q base lo cap ls w' at3 v' (ps ++ (setB x.1 ((ps.length + 1 + qs.length + d : Nat) : Int), x.2) :: (qs ++ rs)) ∧ Wk q v.ownBlock w w' ∧ RowTo w v v'
def z_dm (q base : Nat) (lo : Option Addr) (cap : Nat) (ls : List Ln) (F at_ at3 N : Nat) (more : Nat → Array Value) (d : Nat) (f : Nat → Nat → List Stp) : Prop :=
 ∀ (w : World) (v : Value) (ps : List (Stp × Value)) (x : Stp × Value) (qs : List (Stp × Value)) (nb na : Nat), MkSt q base lo cap ls w at_ v (ps ++ x :: qs) → FillB q w nb na ps.length → ps.length + qs.length ≤ N →
  Calls Tryz.prog F (#[.pointer (some ⟨q, 0, none⟩)] ++ more ps.length ++ #[.func (.func 147) #[] #[.pointer (some ⟨nb, 0, none⟩), .pointer (some ⟨na, 0, none⟩)]]) w (z_nH q base lo cap ls at3 v w ps x qs d (f ps.length))
theorem RowTo.set {w : World} {q j : Nat} {u v v' : Value} (h : RowTo (w.setCell ⟨q, j, none⟩ u) v v') : RowTo w v v' := RowTo.refl.trans h (by simp [World.setCell])
theorem z_hH (q base : Nat) (lo : Option Addr) (cap : Nat) (ls : List Ln) (at_ at2 N : Nat) (f : Nat → List Stp) (hat : at_ ≤ 1000) (H : BlkOK q base lo cap ls 34 (at_ + 1) at2 N f) :
  BlkOK q base lo cap ls 109 at_ at2 N f := by
 intro w v ps hs hps
 have HH : Hid (BlkOK q base lo cap ls 34 (at_ + 1) at2 N f) := H
 have HS : Hid (MkSt q base lo cap ls w at_ v ps) := hs
 have c2 := hs.c2
 have f2 := hs.fz 2
 have hqlt := hs.lt
 clear H hs
 have e1 : ((at_ + 1 : Nat) : Int) = (at_ : Int) + 1 := by omega
 go_enter Tryz.func109, Tryz.ntmps109
 go_wp2_with fail
 have hs1 := HS.out.set2 (at_ + 1)
 rw [e1] at hs1
 refine (HH.out _ v ps hs1 hps).mono ?_
 rintro e w2 ⟨rfl, v', qs, hq, h2, hk, hr⟩
 have HE : Hid (qs.map (·.1) = f ps.length ∧ MkSt q base lo cap ls w2 at2 v' (ps ++ qs) ∧ Wk q v.ownBlock w w2 ∧ RowTo w v v') := ⟨hq, h2, (Wk.of_set 2 _).trans hk (.inl rfl), hr.set⟩
 clear hq h2 hk hr hs1
 go_wp2
 go_end0
 exact ⟨rfl, v', qs, HE.out⟩
end
section
open Go.RowKit
theorem MkSt.linesW {q base : Nat} {lo : Option Addr} {cap : Nat} {ls : List Ln} {w : World} {at_ : Nat} {v : Value} {ps : List (Stp × Value)} (h : MkSt q base lo cap ls w at_ v ps) : LinesAt w.heap.size w lo ls := h.lines.mono (Nat.le_of_lt h.lt)
theorem z_gR (q base : Nat) (lo : Option Addr) (cap : Nat) (ls : List Ln) (at_ : Nat) (hl : ls.length ≤ 60) (hat : at_ < ls.length) (h7 : (ls[at_].1 == 7) = false) :
  z_dm q base lo cap ls 111 at_ at_ 1000 (fun _ => #[]) 0 (fun _ _ => []) := by
 intro w v ps x qs nb na hs hf hN
 show Calls Tryz.prog 111 #[.pointer (some ⟨q, 0, none⟩), .func (.func 147) #[] #[.pointer (some ⟨nb, 0, none⟩), .pointer (some ⟨na, 0, none⟩)]] w _
 have HS : Hid (MkSt q base lo cap ls w at_ v (ps ++ x :: qs)) := hs
 have HF : Hid (FillB q w nb na ps.length) := hf
 obtain ⟨n, hn0⟩ : ∃ n, n = ps.length + 1 + qs.length := ⟨_, rfl⟩
 have hn : Hid (n = ps.length + 1 + qs.length) := hn0
 have hnb : n ≤ 1001 := by omega
 have hn2 : Hid ((ps ++ x :: qs).length = n) := by show _ = _; have := hn.out; simp; omega
 obtain ⟨b, off, rfl, hB, aoA, capA, hcA, q0, q1, q2, q3, q4, hA⟩ := hs.linesW at_ hat
 obtain ⟨k, hk⟩ : ∃ k, k = ls[at_].1 := ⟨_, rfl⟩
 rw [← hk] at q0 h7
 clear hA q1 q2 q3 q4 hk
 have c1 := hs.c1
 have c2 := hs.c2
 have hqlt := hs.lt
 clear hs hf hn0
 go_enter Tryz.func111, Tryz.ntmps111
 go_wp2
 go_region
 all_goals
  go_wp2_with fail
  have hs1 : MkSt q base (some ⟨b, off, none⟩) cap ls w.drew at_ v (ps ++ x :: qs) := HS.out.below (Below.refl _ _).drew
  have hf1 : FillB q w.drew nb na ps.length := HF.out.below (Below.refl _ _).drew
  refine (z_cv q base _ cap ls at_ v _ n _ hs1 hn2.out (by omega)).mono ?_
  rintro e wx ⟨rfl, rfl⟩
  go_wp2_with fail
  refine (z_dO q base _ cap ls at_ v ps qs x nb na n _ hs1 hf1 (by simp; omega)).mono ?_
  rintro e w2 ⟨rfl, h2, hk2⟩
  have HE : Hid (MkSt q base (some ⟨b, off, none⟩) cap ls w2 at_ v (ps ++ (setB x.1 (n : Int), x.2) :: qs) ∧ Wk q v.ownBlock w w2) := ⟨h2, (Wk.of_below (row := v.ownBlock) (Below.refl _ _).drew).trans hk2 (.inl rfl)⟩
  clear h2 hk2 hs1 hf1
  go_wp2
  go_end0
  refine ⟨rfl, v, [], rfl, ?_, HE.out.2, RowTo.refl⟩
  have := HE.out.1
  rw [hn.out] at this
  simpa using this
theorem z_nG (q base : Nat) (lo : Option Addr) (cap : Nat) (ls : List Ln) (at_ : Nat) :
  z_dm q base lo cap ls 112 at_ at_ 1000 (fun i => #[.int .i64 i]) 1 (fun i n => [z_ap 7 i]) := by
 intro w v ps x qs nb na hs hf hN
 show Calls Tryz.prog 112 #[.pointer (some ⟨q, 0, none⟩), .int .i64 ps.length, .func (.func 147) #[] #[.pointer (some ⟨nb, 0, none⟩), .pointer (some ⟨na, 0, none⟩)]] w _
 have HS : Hid (MkSt q base lo cap ls w at_ v (ps ++ x :: qs)) := hs
 have HF : Hid (FillB q w nb na ps.length) := hf
 obtain ⟨n, hn0⟩ : ∃ n, n = ps.length + 1 + qs.length := ⟨_, rfl⟩
 have hn : Hid (n = ps.length + 1 + qs.length) := hn0
 have hnb : n ≤ 1001 := by omega
 have hn2 : Hid ((ps ++ x :: qs).length = n) := by show _ = _; have := hn.out; simp; omega
 obtain ⟨i, hi0⟩ : ∃ i, i = ps.length := ⟨_, rfl⟩
 rw [← hi0]
 have hi : Hid (i = ps.length) := hi0
 clear hi0
 have hqlt := hs.lt
 clear hs hf hn0
 go_enter Tryz.func112, Tryz.ntmps112
 go_wp2_with fail
 refine (z_eE q base lo cap ls at_ v _ 7 w HS.out (by simp; omega)).mono ?_
 rintro e w1 ⟨v1, nb1, na1, rfl, h1, hk1, hr1, hf1⟩
 rw [hn2.out] at hf1
 have HF1 : Hid (FillB q w1 nb1 na1 n) := hf1
 have HFo : Hid (FillB q w1 nb na ps.length) := HF.out.keep HS.out hk1
 have HS1 : Hid (MkSt q base lo cap ls w1 at_ v1 ((ps ++ x :: qs) ++ [(z_ap 7 0, .slice none 0 0)])) := h1
 have HK1 : Hid (Wk q v.ownBlock w w1 ∧ RowTo w v v1) := ⟨hk1, hr1⟩
 clear h1 hk1 hr1 hf1
 go_wp2_with fail
 refine (z_cn q base lo cap ls at_ v1 (ps ++ x :: qs) [] (z_ap 7 0, .slice none 0 0) nb1 na1 i w1 HS1.out (by rw [hn2.out]; exact HF1.out) (by simp; omega)).mono ?_
 rintro e w2 ⟨rfl, h2, hk2⟩
 have e2 : (ps ++ x :: qs) ++ [(setA (z_ap 7 0) (i : Int), .slice none 0 0)] = ps ++ x :: (qs ++ [(z_ap 7 (i : Int), .slice none 0 0)]) := by simp [setA, z_ap]
 rw [e2] at h2
 have HS2 : Hid (MkSt q base lo cap ls w2 at_ v1 (ps ++ x :: (qs ++ [(z_ap 7 (i : Int), .slice none 0 0)]))) := h2
 have HF2 : Hid (FillB q w2 nb na ps.length) := HFo.out.keep HS1.out hk2
 have HK2 : Hid (Wk q v.ownBlock w w2) := HK1.out.1.trans hk2 HK1.out.2.or
 have hn3 : Hid ((ps ++ x :: (qs ++ [(z_ap 7 (i : Int), Value.slice none 0 0)])).length = n + 1) := by show _ = _; have := hn.out; simp; omega
 clear h2 hk2
 go_wp2_with fail
 refine (z_cv q base lo cap ls at_ v1 _ (n + 1) _ HS2.out hn3.out (by omega)).mono ?_
 rintro e wx ⟨rfl, rfl⟩
 go_wp2_with fail
 refine (z_dO q base lo cap ls at_ v1 ps _ x nb na (n + 1 : Nat) _ HS2.out HF2.out (by simp; omega)).mono ?_
 rintro e w3 ⟨rfl, h3, hk3⟩
 have HE : Hid (MkSt q base lo cap ls w3 at_ v1 (ps ++ (setB x.1 ((n + 1 : Nat) : Int), x.2) :: (qs ++ [(z_ap 7 (i : Int), .slice none 0 0)])) ∧ Wk q v.ownBlock w w3) := ⟨h3, HK2.out.trans hk3 HK1.out.2.or⟩
 clear h3 hk3
 go_wp2
 go_end0
 refine ⟨rfl, v1, [(z_ap 7 (i : Int), .slice none 0 0)], by have := hi.out; simp [this], ?_, HE.out.2, HK1.out.2⟩
 have := HE.out.1
 rw [hn.out] at this
 exact this
end
section
open Go.RowKit
theorem z_hB (q base : Nat) (lo : Option Addr) (cap : Nat) (ls : List Ln) (at_ at2 : Nat) (f : Nat → List Stp) (hl : ls.length ≤ 60) (hat : at_ < ls.length) (h7 : ls[at_].1 = 7) (NT NI : Nat) (hNT : NT ≤ 1000) (hNI : NT + 2 ≤ NI) (hfl : ∀ n, (f n).length ≤ 1000) (H : BlkOK q base lo cap ls 109 at_ at2 NI f) :
  z_dm q base lo cap ls 111 at_ at2 NT (fun _ => #[]) 1 (fun _ n => z_ap 7 ((n + 1 + (f (n + 1)).length : Nat) : Int) :: f (n + 1)) := by
 intro w v ps x qs nb na hs hf hN
 show Calls Tryz.prog 111 #[.pointer (some ⟨q, 0, none⟩), .func (.func 147) #[] #[.pointer (some ⟨nb, 0, none⟩), .pointer (some ⟨na, 0, none⟩)]] w _
 have HH : Hid (BlkOK q base lo cap ls 109 at_ at2 NI f) := H
 have HS : Hid (MkSt q base lo cap ls w at_ v (ps ++ x :: qs)) := hs
 have HF : Hid (FillB q w nb na ps.length) := hf
 obtain ⟨n, hn0⟩ : ∃ n, n = ps.length + 1 + qs.length := ⟨_, rfl⟩
 have hn : Hid (n = ps.length + 1 + qs.length) := hn0
 have hnb : n ≤ 1001 := by omega
 have hnb2 : n ≤ NT + 1 := by omega
 have hn2 : Hid ((ps ++ x :: qs).length = n) := by show _ = _; have := hn.out; simp; omega
 have HFL : Hid ((f (n + 1)).length ≤ 1000) := hfl _
 obtain ⟨b, off, rfl, hB, aoA, capA, hcA, q0, q1, q2, q3, q4, hA⟩ := hs.linesW at_ hat
 rw [h7] at q0
 clear hA q1 q2 q3 q4 h7 H hfl
 have c1 := hs.c1
 have c2 := hs.c2
 have hqlt := hs.lt
 clear hs hf hn0
 go_enter Tryz.func111, Tryz.ntmps111
 go_wp2
 go_region
 all_goals
  go_wp2_with fail
  have HS0 : Hid (MkSt q base (some ⟨b, off, none⟩) cap ls w.drew at_ v (ps ++ x :: qs)) := HS.out.below (Below.refl _ _).drew
  have HF0 : Hid (FillB q w.drew nb na ps.length) := HF.out.below (Below.refl _ _).drew
  refine (z_eE q base _ cap ls at_ v _ 7 _ HS0.out (by simp; omega)).mono ?_
  rintro e w1 ⟨v1, nb1, na1, rfl, h1, hk1, hr1, hf1⟩
  rw [hn2.out] at hf1
  have HF1 : Hid (FillB q w1 nb1 na1 n) := hf1
  have HFo : Hid (FillB q w1 nb na ps.length) := HF0.out.keep HS0.out hk1
  have e1 : (ps ++ x :: qs) ++ [(z_ap 7 0, Value.slice none 0 0)] = ps ++ x :: (qs ++ [(z_ap 7 0, .slice none 0 0)]) := by simp
  rw [e1] at h1
  have HS1 : Hid (MkSt q base (some ⟨b, off, none⟩) cap ls w1 at_ v1 (ps ++ x :: (qs ++ [(z_ap 7 0, .slice none 0 0)]))) := h1
  have HK1 : Hid (Wk q v.ownBlock w w1 ∧ RowTo w v v1) := ⟨(Wk.of_below (row := v.ownBlock) (Below.refl _ _).drew).trans hk1 (.inl rfl), hr1⟩
  have hn3 : Hid ((ps ++ x :: (qs ++ [(z_ap 7 0, Value.slice none 0 0)])).length = n + 1) := by show _ = _; have := hn.out; simp; omega
  clear h1 hk1 hr1 hf1
  go_wp2_with fail
  refine (z_cv q base _ cap ls at_ v1 _ (n + 1) _ HS1.out hn3.out (by omega)).mono ?_
  rintro e wx ⟨rfl, rfl⟩
  go_wp2_with fail
  refine (z_dO q base _ cap ls at_ v1 ps _ x nb na (n + 1 : Nat) _ HS1.out HFo.out (by simp; omega)).mono ?_
  rintro e w2 ⟨rfl, h2, hk2⟩
  have HF2 : Hid (FillB q w2 nb1 na1 n) := HF1.out.keep HS1.out hk2
  have HS2 : Hid (MkSt q base (some ⟨b, off, none⟩) cap ls w2 at_ v1 (ps ++ (setB x.1 ((n + 1 : Nat) : Int), x.2) :: (qs ++ [(z_ap 7 0, .slice none 0 0)]))) := h2
  have HK2 : Hid (Wk q v.ownBlock w w2 ∧ RowTo w v v1) := ⟨HK1.out.1.trans hk2 HK1.out.2.or, HK1.out.2⟩
  have hn4 : Hid ((ps ++ (setB x.1 ((n + 1 : Nat) : Int), x.2) :: (qs ++ [(z_ap 7 0, Value.slice none 0 0)])).length = n + 1) := by show _ = _; have := hn.out; simp; omega
  clear h2 hk2
  go_wp2_with fail
  refine (HH.out w2 v1 _ HS2.out (by rw [hn4.out]; omega)).mono ?_
  rintro e w3 ⟨rfl, v3, rs, hrs, h3, hk3, hr3⟩
  rw [hn4.out] at hrs
  have hrl : rs.length = (f (n + 1)).length := by rw [← hrs]; simp
  have HRS : Hid (rs.map (·.1) = f (n + 1)) := hrs
  have HRL : Hid (rs.length = (f (n + 1)).length) := hrl
  have hrl2 : rs.length ≤ 1000 := by rw [hrl]; exact HFL.out
  have HF3 : Hid (FillB q w3 nb1 na1 n) := HF2.out.keep HS2.out hk3
  have e3 : (ps ++ (setB x.1 ((n + 1 : Nat) : Int), x.2) :: (qs ++ [(z_ap 7 0, Value.slice none 0 0)])) ++ rs = (ps ++ (setB x.1 ((n + 1 : Nat) : Int), x.2) :: qs) ++ (z_ap 7 0, .slice none 0 0) :: rs := by simp
  rw [e3] at h3
  have HS3 : Hid (MkSt q base (some ⟨b, off, none⟩) cap ls w3 at2 v3 ((ps ++ (setB x.1 ((n + 1 : Nat) : Int), x.2) :: qs) ++ (z_ap 7 0, .slice none 0 0) :: rs)) := h3
  have HK3 : Hid (Wk q v.ownBlock w w3 ∧ RowTo w v v3) := ⟨HK2.out.1.trans hk3 HK2.out.2.or, HK2.out.2.trans hr3 HK2.out.1.size⟩
  obtain ⟨n3, hn3e⟩ : ∃ n3, n3 = n + 1 + rs.length := ⟨_, rfl⟩
  have hn3b : n3 ≤ 3000 := by have := HFL.out; omega
  have HN3 : Hid (n3 = n + 1 + rs.length) := hn3e
  have hn5 : Hid (((ps ++ (setB x.1 ((n + 1 : Nat) : Int), x.2) :: qs) ++ (z_ap 7 0, Value.slice none 0 0) :: rs).length = n3) := by show _ = _; have := hn.out; have := HN3.out; simp; omega
  have hn6 : Hid ((ps ++ (setB x.1 ((n + 1 : Nat) : Int), x.2) :: qs).length = n) := by show _ = _; have := hn.out; simp; omega
  clear h3 hk3 hr3 hrs hn3e hrl
  go_wp2_with fail
  refine (z_cv q base _ cap ls at2 v3 _ n3 _ HS3.out hn5.out (by omega)).mono ?_
  rintro e wx ⟨rfl, rfl⟩
  go_wp2_with fail
  refine (z_cn q base _ cap ls at2 v3 _ rs (z_ap 7 0, .slice none 0 0) nb1 na1 n3 _ HS3.out (by rw [hn6.out]; exact HF3.out) (by simp; omega)).mono ?_
  rintro e w4 ⟨rfl, h4, hk4⟩
  have HE : Hid (MkSt q base (some ⟨b, off, none⟩) cap ls w4 at2 v3 ((ps ++ (setB x.1 ((n + 1 : Nat) : Int), x.2) :: qs) ++ (setA (z_ap 7 0) (n3 : Int), .slice none 0 0) :: rs) ∧ Wk q v.ownBlock w w4 ∧ RowTo w v v3) := ⟨h4, HK3.out.1.trans hk4 HK3.out.2.or, HK3.out.2⟩
  clear h4 hk4
  go_wp2
  go_end0
  refine ⟨rfl, v3, (z_ap 7 (n3 : Int), .slice none 0 0) :: rs, ?_, ?_, HE.out.2⟩
  ·show z_ap 7 _ :: rs.map (·.1) = _
   rw [HRS.out, ← hn.out, HN3.out, HRL.out]
  ·have h := HE.out.1
   rw [List.append_assoc] at h
   rw [← hn.out]
   exact h
end
end Go.Proofs.YtlbjjbolbopfmaaGreatDoor
