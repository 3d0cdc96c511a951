import Derived.Test.YtlbjjbolbopfmaaGreatDoorJ33
import Derived.Test.YtlbjjbolbopfmaaGreatDoorJ25
namespace Go.Proofs.YtlbjjbolbopfmaaGreatDoor
set_option maxHeartbeats 4000000
set_option maxRecDepth 1000000
set_option linter.unusedVariables false
open Go.RowKit
theorem z_k6 {r0 : List ByteArray} (h : 2 ≤ r0.length) : ∃ r u x, r0 = r ++ [u, x] := by
  refine ⟨r0.take (r0.length - 2), r0[r0.length - 2], r0[r0.length - 1], ?_⟩
  have h1 : r0.drop (r0.length - 2) = [r0[r0.length - 2], r0[r0.length - 1]] := by
    apply List.ext_getElem (by simp; omega)
    intro n hn hm
    have hn2 : n < 2 := by simpa using hm
    rw [List.getElem_drop]
    match n, hn2 with
    | 0, _ => rfl
    | 1, _ => simp only [List.getElem_cons_succ, List.getElem_cons_zero]; congr 1; omega
  calc r0 = r0.take (r0.length - 2) ++ r0.drop (r0.length - 2) := (List.take_append_drop _ _).symm
    _ = _ := by rw [h1]
theorem z_l8 {a b u x : ByteArray} {r : List ByteArray} : z_aJ (a :: b :: (r ++ [u, x])) = (u.toList == [117, 110, 100, 111]) := by
 have e1 : (a :: b :: (r ++ [u, x])).length = r.length + 4 := by simp
 have e2 : (a :: b :: (r ++ [u, x])).getD (r.length + 2) eS = u := by simp [List.getD]
 unfold z_aJ
 rw [e1, show r.length + 4 - 2 = r.length + 2 by omega, e2, decide_eq_true (by omega : 3 < r.length + 4), Bool.true_and]
theorem z_mp (ao : Option Addr) (c : Nat) (ws : List ByteArray) (B : Nat) (w : World) (hBB : B ≤ w.heap.size) (hl : ws.length ≤ 4398046511000) (hc : ws.length ≤ c) (hz : ∀ s ∈ ws, s.size ≤ 4398046511104) (hi : StrsAt 0 B w ao ws) :
  Calls Tryz.prog 198 #[.agg #[.int .i64 (3 : Nat), .string ⟨#[]⟩, .string ⟨#[]⟩, .slice none 0 0, .string ⟨#[]⟩], .slice ao ws.length c] w (DoE B w ws) := by
 by_cases h2 : ws.length < 2
 ·exact z_kx ao c ws B w h2
 match ws, h2, hl, hc, hz, hi with
 | [], h2, _, _, _, _ => exact absurd (by simp) h2
 | [_], h2, _, _, _, _ => exact absurd (by simp) h2
 | a :: b :: r0, _, hl, hc, hz, hi =>
  obtain ⟨g, off, rfl, _⟩ := hi.at 0 (by simp)
  by_cases h4 : 2 ≤ r0.length
  ·obtain ⟨r, u, x, rfl⟩ := z_k6 h4
   have el : (a :: b :: (r ++ [u, x])).length = r.length + 4 := by simp
   rw [el] at hl hc ⊢
   cases hu : (u.toList == [117, 110, 100, 111]) with
   | true =>
    cases hx : z_ac x with
    | false => exact z_nt g off c a b u x r B w hBB (by omega) hc hz hi hu hx
    | true =>
     by_cases hr : 3 < r.length
     ·exact z_nA g off c a b u x r B w hBB (by omega) hc hz hi hu hx hr
     have hr : r.length ≤ 3 := by omega
     cases ha : z_ac a with
     | false => exact z_ne g off c a b u x r B w hBB (by omega) hc hz hi hu hx hr ha
     | true =>
      cases hb : z_ac b with
      | false => exact z_ng g off c a b u x r B w hBB (by omega) hc hz hi hu hx hr ha hb
      | true =>
       cases ho : allB z_an r with
       | false => exact z_nH g off c a b u x r B w hBB (by omega) hc hz hi hu hx hr ha hb ho
       | true => exact z_nM g off c a b u x r B w hBB (by omega) hc hz hi hu hx hr ha hb ho
   | false =>
    have hn : z_aJ (a :: b :: (r ++ [u, x])) = false := by rw [z_l8]; exact hu
    have e0 : (r ++ [u, x]).length = r.length + 2 := by simp
    have hu0 : (a :: b :: (r ++ [u, x]))[(r ++ [u, x]).length]'(by simp) = u := by
     have : (a :: b :: (r ++ [u, x]))[(r ++ [u, x]).length]? = some u := by rw [e0]; simp
     exact Option.some.inj ((List.getElem?_eq_getElem _).symm.trans this)
    have hl' : (r ++ [u, x]).length ≤ 4398046511000 := by omega
    have hc' : (r ++ [u, x]).length + 2 ≤ c := by omega
    rw [show r.length + 4 = (r ++ [u, x]).length + 2 by omega]
    by_cases hr : 3 < (r ++ [u, x]).length
    ·exact z_nB g off c a b (r ++ [u, x]) B w hBB hl' hc' hz hi u hn h4 hu0 hu hr
    have hr : (r ++ [u, x]).length ≤ 3 := by omega
    cases ha : z_ac a with
    | false => exact z_nw g off c a b (r ++ [u, x]) B w hBB hl' hc' hz hi u hn h4 hu0 hu hr ha
    | true =>
     cases hb : z_ac b with
     | false => exact z_ni g off c a b (r ++ [u, x]) B w hBB hl' hc' hz hi u hn h4 hu0 hu hr ha hb
     | true =>
      cases ho : allB z_an (r ++ [u, x]) with
      | false => exact z_nr g off c a b (r ++ [u, x]) B w hBB hl' hc' hz hi u hn h4 hu0 hu hr (by omega) ha hb ho
      | true => exact z_nl g off c a b (r ++ [u, x]) B w hBB hl' hc' hz hi u hn h4 hu0 hu hr (by omega) ha hb ho
  ·have hr2 : r0.length < 2 := by omega
   have hn : z_aJ (a :: b :: r0) = false := by
    unfold z_aJ
    have : (a :: b :: r0).length = r0.length + 2 := by simp
    rw [decide_eq_false (by rw [this]; omega), Bool.false_and]
   have el : (a :: b :: r0).length = r0.length + 2 := by simp
   rw [el] at hl hc ⊢
   cases ha : z_ac a with
   | false => exact z_nK g off c a b r0 B w hBB (by omega) hc hz hi hn hr2 ha
   | true =>
    cases hb : z_ac b with
    | false => exact z_nh g off c a b r0 B w hBB (by omega) hc hz hi hn hr2 ha hb
    | true =>
     by_cases hc2 : c = 2
     ·have e0 : r0 = [] := List.length_eq_zero_iff.1 (by omega)
      subst e0
      subst hc2
      exact z_mC g off a b B w hBB hz hi ha hb
     ·cases ho : allB z_an r0 with
      | false => exact z_nk g off c a b r0 B w hBB (by omega) hc hz hi hn hr2 hc2 ha hb ho
      | true => exact z_nE g off c a b r0 B w hBB (by omega) hc hz hi hn hr2 hc2 ha hb ho
theorem z_lY (ao : Option Addr) (c : Nat) (ws : List ByteArray) (w : World) (hl : ws.length ≤ 4398046511000) (hc : ws.length ≤ c) (hz : ∀ s ∈ ws, s.size ≤ 4398046511104) (hi : StrsAt 0 w.heap.size w ao ws) :
  Calls Tryz.prog 171 #[.int .i64 (3 : Nat), .slice ao ws.length c] w (z_bg w (3 : Nat) ws) := by
 have HI : Hid (StrsAt 0 w.heap.size w ao ws) := hi
 have HZ : Hid (∀ s ∈ ws, s.size ≤ 4398046511104) := hz
 clear hi hz
 go_enter Tryz.func171, Tryz.ntmps171
 go_wp2_with fail
 refine (z_mp ao c ws w.heap.size _ (by simp; omega) hl hc HZ.out (HI.out.below (z_ab _ _ _))).mono ?_
 rintro e w2 ⟨hb, tt, nm, ud, args, bo, cap, ok, rfl, hcap, hle, hs, h1, h2⟩
 obtain ⟨HB, hz2, ⟨x0, x1, x2, x3, x4⟩, hf⟩ := (show Hid (Below w.heap.size w w2) ∧ w.heap.size < w2.heap.size ∧ (w2.cell? ⟨w.heap.size, 0, none⟩ = some (.int .i64 0) ∧ w2.cell? ⟨w.heap.size, 1, none⟩ = some (.string ⟨#[]⟩) ∧ w2.cell? ⟨w.heap.size, 2, none⟩ = some (.string ⟨#[]⟩) ∧ w2.cell? ⟨w.heap.size, 3, none⟩ = some (.slice none 0 0) ∧ w2.cell? ⟨w.heap.size, 4, none⟩ = some (.string ⟨#[]⟩)) ∧ (∀ j, w2.frozen? ⟨w.heap.size, j, none⟩ = false) from by
  have hc0 := fun j => hb.cell (p := ⟨w.heap.size, j, none⟩) (by simp; omega)
  have hf0 := fun j => hb.frozen (p := ⟨w.heap.size, j, none⟩) (by simp; omega)
  refine ⟨(z_ab _ _ _).trans (hb.mono (by simp; omega)), by have := hb.size; simp at this; omega, ⟨?_, ?_, ?_, ?_, ?_⟩, fun j => ?_⟩
  all_goals first | (rw [hc0]; simp [go_sem]; done) | (rw [hf0]; simp [go_sem]; done))
 have HS : Hid (StrsAt 0 w.heap.size w2 bo args) := hs
 have H1 : Hid (ok = true → z_af ((3 : Nat) : Int) ws = some ⟨tt, nm, args, ud⟩) := h1
 have H2 : Hid (ok = false → z_af ((3 : Nat) : Int) ws = none) := h2
 clear hb hs h1 h2
 go_wp2
 refine bodyPost_ret (v := .tuple #[.agg #[.int .i64 _, .string tt, .string nm, .slice bo args.length cap, .string ud], .bool ok]) (by simp [results, Tryz.results171, go_sem, x0, x1, x2, x3, x4]; rfl) rfl ?_
 refine ⟨z_az HB.out _ _ _ _ _, tt, nm, ud, args, bo, cap, ok, rfl, hcap, hle, ?_, H1.out, H2.out⟩
 have h5 := ((((HS.out.setCell (p := ⟨w.heap.size, 0, none⟩) (.inr (Nat.le_refl _)) (.int .i64 (3 : Nat))).setCell (p := ⟨w.heap.size, 1, none⟩) (.inr (Nat.le_refl _)) (.string tt)).setCell (p := ⟨w.heap.size, 2, none⟩) (.inr (Nat.le_refl _)) (.string nm)).setCell (p := ⟨w.heap.size, 3, none⟩) (.inr (Nat.le_refl _)) (.slice bo args.length cap)).setCell (p := ⟨w.heap.size, 4, none⟩) (.inr (Nat.le_refl _)) (.string ud)
 exact h5.mono (Nat.le_refl _) (by simp [World.setCell]; omega)
end Go.Proofs.YtlbjjbolbopfmaaGreatDoor
