import Derived.Test.YtlbjjbolbopfmaaGreatDoorJ17
import Derived.Test.YtlbjjbolbopfmaaGreatDoorJ16
import Derived.Test.YtlbjjbolbopfmaaGreatDoorJ05
import Derived.Test.YtlbjjbolbopfmaaGreatDoorJ04
namespace Go.Proofs.YtlbjjbolbopfmaaGreatDoor
set_option maxHeartbeats 4000000
set_option maxRecDepth 1000000
set_option linter.unusedVariables false
section
open Go.RowKit
theorem z_jy (k : Int) (h1 : 1 ≤ k) (h2 : k ≤ 15) : ∃ b r, (z_a3 k).data.toList = b :: r ∧ b ≠ 32 := by
 have hk : k = 1 ∨ k = 2 ∨ k = 3 ∨ k = 4 ∨ k = 5 ∨ k = 6 ∨ k = 7 ∨ k = 8 ∨ k = 9 ∨ k = 10 ∨ k = 11 ∨ k = 12 ∨ k = 13 ∨ k = 14 ∨ k = 15 := by omega
 rcases hk with rfl | rfl | rfl | rfl | rfl | rfl | rfl | rfl | rfl | rfl | rfl | rfl | rfl | rfl | rfl <;> exact ⟨_, _, rfl, by decide⟩
theorem z_hO (k : Int) (d : Bd) (h1 : 1 ≤ k) (h2 : k ≤ 15) : z_a7 k d ≠ [] := by
 obtain ⟨r, hr⟩ := z_mi k d
 obtain ⟨b, t, hb, hne⟩ := z_jy k h1 h2
 have e : (z_cc (outW k d)).data.toList = b :: (t ++ Lib.joinTail [32] (r.map (·.data.toList))) := by
  show (Lib.join _ _).toArray.toList = _
  rw [hr, List.map_cons, Lib.join_cons, hb]; rfl
 apply z_l
 ·have : (z_cc (outW k d)).data.toList.length = (z_cc (outW k d)).size := by simp
  rw [e] at this; simp at this; omega
 ·have h0 : 0 < (z_cc (outW k d)).size := by
   have : (z_cc (outW k d)).data.toList.length = (z_cc (outW k d)).size := by simp
   rw [e] at this; simp at this; omega
  rw [get_at _ 0 h0]
  have e2 : (z_cc (outW k d)).data.toList[0]? = some b := by rw [e]; rfl
  have e3 : (z_cc (outW k d)).data.toList[0]? = some ((z_cc (outW k d))[0]'h0) := by
   rw [List.getElem?_eq_getElem (by simpa using h0)]; rfl
  rw [e3] at e2
  rw [Option.some.inj e2]; exact hne
theorem z_lJ (k : Int) (d : Bd) (M : Nat) (hM : 8 ≤ M) (h1 : d.to.size ≤ M) (h2 : d.name.size ≤ M) (h3 : d.undo.size ≤ M) (h4 : ∀ s ∈ d.args, s.size ≤ M) : ∀ s ∈ outW k d, s.size ≤ M := by
 have hk := z_cF k
 have hget : ∀ i, (d.args.getD i eS).size ≤ M := by
  intro i
  by_cases hi : i < d.args.length
  ·rw [show d.args.getD i eS = d.args[i] by simp [List.getD, hi]]; exact h4 _ (List.getElem_mem hi)
  ·rw [show d.args.getD i eS = eS by simp [List.getD, List.getElem?_eq_none (Nat.le_of_not_lt hi)]]; exact Nat.zero_le _
 intro s hs
 rw [outW] at hs
 split at hs
 ·simp only [List.mem_cons, List.not_mem_nil, or_false] at hs
  rcases hs with rfl | rfl | rfl | rfl
  ·omega
  ·exact hget 0
  ·exact h2
  ·exact hget 1
 ·simp only [List.mem_append, List.mem_cons] at hs
  rcases hs with (((rfl | hs) | hs) | hs) | hs
  ·omega
  ·have := (List.mem_filter.1 hs).1
   simp only [List.mem_cons, List.not_mem_nil, or_false] at this
   rcases this with rfl | rfl
   ·exact h1
   ·exact h2
  ·split at hs
   ·have : s = forS := by simpa using hs
    subst this; exact Nat.le_trans (by decide) hM
   ·simp at hs
  ·exact h4 s hs
  ·rw [z_cn] at hs
   split at hs
   ·simp at hs
   ·simp only [List.mem_cons, List.not_mem_nil, or_false] at hs
    rcases hs with rfl | rfl
    ·exact Nat.le_trans (by decide) hM
    ·exact h3
theorem z_iA {k : Int} {ws : List ByteArray} {d : Bd} (h : z_af k ws = some d) : d.args.length ≤ ws.length := by
 have hn : ∀ {x}, pNext ws = some x → x.args.length ≤ ws.length := by
  intro x hx
  rw [pNext.eq_def] at hx
  split at hx
  ·cases hx; exact Nat.le_refl _
  ·cases hx
 have h0 : ∀ {vs : List ByteArray} {u x}, vs.length ≤ ws.length → pDo0 vs u = some x → x.args.length ≤ ws.length := by
  intro vs u x hv hx
  rw [pDo0.eq_def] at hx
  split at hx
  ·split at hx
   ·cases hx; simp at hv ⊢; omega
   ·cases hx
  ·cases hx
 rw [z_af] at h
 split at h
 ·rw [pHead.eq_def] at h
  split at h
  ·cases h
  ·split at h
   ·cases h; simp
   ·cases h
 split at h
 ·rw [pLet.eq_def] at h
  split at h
  ·split at h
   ·cases h; simp
   ·cases h
  ·cases h
 split at h
 ·rw [pDo.eq_def] at h
  split at h
  ·split at h
   ·exact h0 (by simp) h
   ·cases h
  ·exact h0 (Nat.le_refl _) h
 split at h
 ·rw [pGet.eq_def] at h
  split at h
  ·split at h
   ·cases h; simp
   ·cases h
  ·split at h
   ·cases h; simp
   ·cases h
  ·cases h
 split at h
 ·rw [pTest.eq_def] at h
  split at h
  ·split at h
   ·cases h; simp
   ·cases h
  ·cases h
 split at h
 ·rw [pNothing.eq_def] at h
  split at h
  ·cases h; simp
  ·cases h
 split at h
 ·rw [pOperand.eq_def] at h
  split at h
  ·exact hn h
  ·cases h
 split at h
 ·rw [pPatch.eq_def] at h
  split at h
  ·split at h
   ·cases h; simp
   ·cases h
  ·cases h
 split at h
 ·exact hn h
 ·cases h
theorem z_h8 (k : Int) (ao : Option Addr) (cap : Nat) (d : Bd) (w : World) (hk1 : 1 ≤ k) (hk2 : k ≤ 15) (hbr : branchK k = true → d.args.length = 2) (hcap : d.args.length ≤ cap) (hl : d.args.length ≤ 1048576)
  (hs : ∀ s ∈ outW k d, s.size ≤ 1048576) (hi : StrsAt 0 w.heap.size w ao d.args) (he : Env w) :
  Calls Tryz.prog 93 #[.agg #[.int .i64 k, .string d.to, .string d.name, .slice ao d.args.length cap, .string d.undo]] w fun e w' => e = .returned (.bool (z_br k d)) ∧ Below w.heap.size w w' := by
 have HS : Hid (∀ s ∈ outW k d, s.size ≤ 1048576) := hs
 have HI : Hid (StrsAt 0 w.heap.size w ao d.args) := hi
 have HE : Hid (Env w) := he
 have HBR : Hid (branchK k = true → d.args.length = 2) := hbr
 clear hs hi he hbr
 have hk3 : ¬ k < 1 := by omega
 go_enter Tryz.func93, Tryz.ntmps93
 obtain ⟨a, r, HW⟩ : ∃ a r, Hid (wordsW (z_cc (outW k d)) = a :: r) := by
  have h := z_hO k d hk1 hk2
  cases hx : z_a7 k d with
  | nil => exact absurd hx h
  | cons a r => exact ⟨a, r, hx⟩
 have HJ : Hid ((z_cc (outW k d)).size ≤ 1099518967814) := by
  have h1 := z_kW 1048576 _ HS.out
  have h2 := z_mq k d
  have h3 : (outW k d).length * (1048576 + 1) ≤ 1048582 * (1048576 + 1) := Nat.mul_le_mul_right _ (by omega)
  show _ ≤ _
  omega
 have HLr : Hid (r.length ≤ 1099518967814) := by
  have h1 := z_f3 (z_cc (outW k d))
  rw [HW.out] at h1
  have := HJ.out
  show _ ≤ _
  simp at h1; omega
 have HSz : Hid (∀ s ∈ a :: r, s.size ≤ 1099518967814) := fun s hs => by
  have h1 := z_fG (z_cc (outW k d)) s (by rw [HW.out]; exact hs)
  have := HJ.out; omega
 go_wp2_with fail
 refine (z_cv _ _ _ _ _ _).mono ?_
 rintro e w2 ⟨rfl, hb2⟩
 obtain ⟨⟨x0, x1, x2, x3, x4⟩, hf, hlt⟩ := box5 hb2
 have HB2 : Hid (Below w.heap.size w w2) := ((Below.refl _ _).alloc (Nat.le_refl _) _).trans (hb2.mono (by simp))
 clear hb2
 cases hb : branchK k with
 | false =>
  go_wp2_with fail
  refine (z_dC k ao cap d w2 HBR.out hcap hl HS.out (HI.out.later HB2.out)).mono ?_
  rintro e w3 ⟨rfl, hb3⟩
  have HB3 : Hid (Below w2.heap.size w2 w3) := hb3
  clear hb3
  go_wp2_with fail
  have hsp := splitWords_any (z_cc (outW k d)) w3 (by have := HJ.out; omega)
  rw [HW.out] at hsp
  refine hsp.mono ?_
  clear hsp
  rintro e w4 ⟨v4, rfl, hb4, ao4, c4, rfl, hc4, hi4⟩
  have HB4 : Hid (Below w2.heap.size w2 w4) := HB3.out.trans (hb4.mono HB3.out.size)
  have HI4 : Hid (StrsAt 0 w4.heap.size w4 ao4 (a :: r)) := hi4.mono (Nat.zero_le _) (Nat.le_refl _)
  have hc4' : r.length + 1 ≤ c4 := hc4
  clear hb4 hi4 hc4
  simp only [List.length_cons]
  go_wp2_with fail
  refine (z_er ao4 c4 a r w4 hc4' (by have := HLr.out; omega) (fun s h => by have := HSz.out s h; omega) HI4.out (HE.out.later (HB2.out.trans (HB4.out.mono HB2.out.size)))).mono ?_
  rintro e w5 ⟨v5, rfl, hb5, k', d', ⟨ao5, c5, rfl, hc5, hi5⟩, hd⟩
  have hb5' : Below w2.heap.size w2 w5 := HB4.out.trans (hb5.mono HB4.out.size)
  have HB5 : Hid (Below w.heap.size w w5) := HB2.out.trans (hb5'.mono HB2.out.size)
  have y0 := (hb5'.cell (p := ⟨w.heap.size, 0, none⟩) hlt).trans x0
  have y1 := (hb5'.cell (p := ⟨w.heap.size, 1, none⟩) hlt).trans x1
  have y2 := (hb5'.cell (p := ⟨w.heap.size, 2, none⟩) hlt).trans x2
  have y3 := (hb5'.cell (p := ⟨w.heap.size, 3, none⟩) hlt).trans x3
  have y4 := (hb5'.cell (p := ⟨w.heap.size, 4, none⟩) hlt).trans x4
  have hlt5 : w.heap.size < w5.heap.size := by have := hb5'.size; omega
  have HI5 : Hid (StrsAt w4.heap.size w5.heap.size w5 ao5 d'.args) := hi5
  have HD : Hid (∀ d0, z_af (z_aN a) r = some d0 → d' = d0 ∧ k' = z_aN a) := hd
  have HNB : Hid (∀ L : Obj, Below w5.heap.size w5 (w5.alloc L)) := fun L => (Below.refl _ _).alloc (Nat.le_refl _) _
  clear hb5 hb5' hi5 hd x0 x1 x2 x3 x4
  cases ho : z_af (z_aN a) r with
  | none =>
   have HN : Hid (z_br k d = false) := by show _ = _; rw [z_br]; simp only [z_a7, HW.out, ho, Bool.and_false]
   go_wp2
   go_ret
   exact ⟨by rw [HN.out]; rfl, HB5.out.trans ((HNB.out _).mono (by omega))⟩
  | some d0 =>
   obtain ⟨e1, e2⟩ := HD.out d0 ho
   subst e1 e2
   have HN : Hid (z_br k d = z_a0 k (z_aN a) d d') := by show _ = _; rw [z_br]; simp only [z_a7, HW.out, ho]; rw [decide_eq_true (⟨hk1, hk2⟩ : 1 ≤ k ∧ k ≤ 15), hb]; rfl
   have hl5 : d'.args.length ≤ r.length := z_iA ho
   have hl6 := HLr.out
   clear ho HD
   go_wp2_with fail
   refine (z_eo k (z_aN a) d d' ao ao5 cap c5 0 w4.heap.size _ (by omega) (by omega) ((HI.out.later HB5.out).later (HNB.out _)) (HI5.out.later (HNB.out _))).mono ?_
   rintro e w6 ⟨rfl, hb6⟩
   have HB6 : Hid (Below w.heap.size w w6) := HB5.out.trans ((HNB.out _).mono (by omega) |>.trans (hb6.mono (by simp; omega)))
   clear hb6
   cases hsm : z_a0 k (z_aN a) d d' with
   | false =>
    go_wp2
    go_ret
    exact ⟨by rw [HN.out, hsm]; rfl, HB6.out⟩
   | true =>
    go_wp2
    go_ret
    exact ⟨by rw [HN.out, hsm]; rfl, HB6.out⟩
 | true =>
  have H2 : Hid (d.args.length = 2) := HBR.out hb
  have hq2 : ((d.args.length : Int) == 2) = true := by have := H2.out; simp; omega
  go_wp2_with fail
  refine (z_dC k ao cap d w2 HBR.out hcap hl HS.out (HI.out.later HB2.out)).mono ?_
  rintro e w3 ⟨rfl, hb3⟩
  have HB3 : Hid (Below w2.heap.size w2 w3) := hb3
  clear hb3
  go_wp2_with fail
  have hsp := splitWords_any (z_cc (outW k d)) w3 (by have := HJ.out; omega)
  rw [HW.out] at hsp
  refine hsp.mono ?_
  clear hsp
  rintro e w4 ⟨v4, rfl, hb4, ao4, c4, rfl, hc4, hi4⟩
  have HB4 : Hid (Below w2.heap.size w2 w4) := HB3.out.trans (hb4.mono HB3.out.size)
  have HI4 : Hid (StrsAt 0 w4.heap.size w4 ao4 (a :: r)) := hi4.mono (Nat.zero_le _) (Nat.le_refl _)
  have hc4' : r.length + 1 ≤ c4 := hc4
  clear hb4 hi4 hc4
  simp only [List.length_cons]
  go_wp2_with fail
  refine (z_er ao4 c4 a r w4 hc4' (by have := HLr.out; omega) (fun s h => by have := HSz.out s h; omega) HI4.out (HE.out.later (HB2.out.trans (HB4.out.mono HB2.out.size)))).mono ?_
  rintro e w5 ⟨v5, rfl, hb5, k', d', ⟨ao5, c5, rfl, hc5, hi5⟩, hd⟩
  have hb5' : Below w2.heap.size w2 w5 := HB4.out.trans (hb5.mono HB4.out.size)
  have HB5 : Hid (Below w.heap.size w w5) := HB2.out.trans (hb5'.mono HB2.out.size)
  have y0 := (hb5'.cell (p := ⟨w.heap.size, 0, none⟩) hlt).trans x0
  have y1 := (hb5'.cell (p := ⟨w.heap.size, 1, none⟩) hlt).trans x1
  have y2 := (hb5'.cell (p := ⟨w.heap.size, 2, none⟩) hlt).trans x2
  have y3 := (hb5'.cell (p := ⟨w.heap.size, 3, none⟩) hlt).trans x3
  have y4 := (hb5'.cell (p := ⟨w.heap.size, 4, none⟩) hlt).trans x4
  have hlt5 : w.heap.size < w5.heap.size := by have := hb5'.size; omega
  have HI5 : Hid (StrsAt w4.heap.size w5.heap.size w5 ao5 d'.args) := hi5
  have HD : Hid (∀ d0, z_af (z_aN a) r = some d0 → d' = d0 ∧ k' = z_aN a) := hd
  have HNB : Hid (∀ L : Obj, Below w5.heap.size w5 (w5.alloc L)) := fun L => (Below.refl _ _).alloc (Nat.le_refl _) _
  clear hb5 hb5' hi5 hd x0 x1 x2 x3 x4
  cases ho : z_af (z_aN a) r with
  | none =>
   have HN : Hid (z_br k d = false) := by show _ = _; rw [z_br]; simp only [z_a7, HW.out, ho, Bool.and_false]
   go_wp2
   go_ret
   exact ⟨by rw [HN.out]; rfl, HB5.out.trans ((HNB.out _).mono (by omega))⟩
  | some d0 =>
   obtain ⟨e1, e2⟩ := HD.out d0 ho
   subst e1 e2
   have HN : Hid (z_br k d = z_a0 k (z_aN a) d d') := by show _ = _; rw [z_br]; simp only [z_a7, HW.out, ho]; rw [decide_eq_true (⟨hk1, hk2⟩ : 1 ≤ k ∧ k ≤ 15), decide_eq_true H2.out, hb]; rfl
   have hl5 : d'.args.length ≤ r.length := z_iA ho
   have hl6 := HLr.out
   clear ho HD
   go_wp2_with fail
   refine (z_eo k (z_aN a) d d' ao ao5 cap c5 0 w4.heap.size _ (by omega) (by omega) ((HI.out.later HB5.out).later (HNB.out _)) (HI5.out.later (HNB.out _))).mono ?_
   rintro e w6 ⟨rfl, hb6⟩
   have HB6 : Hid (Below w.heap.size w w6) := HB5.out.trans ((HNB.out _).mono (by omega) |>.trans (hb6.mono (by simp; omega)))
   clear hb6
   cases hsm : z_a0 k (z_aN a) d d' with
   | false =>
    go_wp2
    go_ret
    exact ⟨by rw [HN.out, hsm]; rfl, HB6.out⟩
   | true =>
    go_wp2
    go_ret
    exact ⟨by rw [HN.out, hsm]; rfl, HB6.out⟩
end
section
open Go.RowKit
theorem z_dJ (k : Int) (d : Bd) (h : ¬ (1 ≤ k ∧ k ≤ 15)) : z_br k d = false := by
 rw [z_br, decide_eq_false h]; rfl
theorem z_es (k : Int) (d : Bd) (h : branchK k = true) (h2 : d.args.length ≠ 2) : z_br k d = false := by
 rw [z_br, h, decide_eq_false h2]; simp
theorem z_g8 (k : Int) (ao : Option Addr) (cap : Nat) (d : Bd) (w : World) (hcap : d.args.length ≤ cap) (hl : d.args.length ≤ 1048576)
  (h1 : d.to.size ≤ 1048576) (h2 : d.name.size ≤ 1048576) (h3 : d.undo.size ≤ 1048576) (h4 : ∀ s ∈ d.args, s.size ≤ 1048576) (hi : StrsAt 0 w.heap.size w ao d.args) (he : Env w) :
  Calls Tryz.prog 93 #[.agg #[.int .i64 k, .string d.to, .string d.name, .slice ao d.args.length cap, .string d.undo]] w fun e w' => e = .returned (.bool (z_br k d)) ∧ Below w.heap.size w w' := by
 by_cases hk1 : 1 ≤ k
 ·by_cases hk2 : k ≤ 15
  ·by_cases hb : branchK k = true ∧ d.args.length ≠ 2
   ·obtain ⟨hb, hne⟩ := hb
    have HN : Hid (z_br k d = false) := z_es k d hb hne
    have HB0 : Hid (branchK k = true) := hb
    have hq2 : ((d.args.length : Int) == 2) = false := by simp; omega
    have hk3 : ¬ k < 1 := by omega
    clear hi he h4 h1 h2 h3 hb hne
    go_enter Tryz.func93, Tryz.ntmps93
    go_wp2_with fail
    refine (z_cv _ _ _ _ _ _).mono ?_
    rintro e w2 ⟨rfl, hb2⟩
    rw [HB0.out]
    obtain ⟨⟨x0, x1, x2, x3, x4⟩, hf, hlt⟩ := box5 hb2
    have HB2 : Hid (Below w.heap.size w w2) := ((Below.refl _ _).alloc (Nat.le_refl _) _).trans (hb2.mono (by simp))
    clear hb2
    go_wp2
    go_ret
    exact ⟨by rw [HN.out]; rfl, HB2.out⟩
   ·exact z_h8 k ao cap d w hk1 hk2 (fun h => by have := hb; simp only [h, true_and, ne_eq, Classical.not_not] at this; exact this) hcap hl (z_lJ k d 1048576 (by omega) h1 h2 h3 h4) hi he
  ·have HN : Hid (z_br k d = false) := z_dJ k d (by omega)
   have hk3 : ¬ k < 1 := by omega
   have hk4 : 15 < k := by omega
   clear hi he
   go_enter Tryz.func93, Tryz.ntmps93
   go_wp2
   go_ret
   exact ⟨by rw [HN.out]; rfl, (Below.refl _ _).alloc (Nat.le_refl _) _⟩
 ·have HN : Hid (z_br k d = false) := z_dJ k d (by omega)
  have hk3 : k < 1 := by omega
  clear hi he
  go_enter Tryz.func93, Tryz.ntmps93
  go_wp2
  go_ret
  exact ⟨by rw [HN.out]; rfl, (Below.refl _ _).alloc (Nat.le_refl _) _⟩
end
section
open Go.RowKit
def backL (l : Ln) : Bool := z_br l.1 l.2
theorem z_kO (os : List Opn) (k : Int) (f : Bool) : (z_aS os k f).1.length ≤ os.length + 1 := by
 rw [z_aS]
 split
 ·simp
 split
 ·simp
 split
 ·simp
 split
 ·simp
 ·split
  ·simp
  split
  ·simp
  ·simp; omega
theorem z_hW {ls : List Ln} {k : Nat} (hk : k < ls.length) (h : backL ls[k] = false) : ¬ standB ls backL := fun hs => by
 have := hs.2.1 _ (List.getElem_mem hk)
 rw [h] at this; cases this
theorem z_oe {w w1 : World} {row : Option Nat} {x0 x1 x2 x3 x4 : Value} {t : TypeId} (hg : (w.alloc (.cells #[x0, x1, x2, x3, x4] t)).grownBy w1 row) (hne : ∀ k, row = some k → k < w.heap.size) :
  (w1.cell? ⟨w.heap.size, 0, none⟩ = some x0 ∧ w1.cell? ⟨w.heap.size, 1, none⟩ = some x1 ∧ w1.cell? ⟨w.heap.size, 2, none⟩ = some x2 ∧ w1.cell? ⟨w.heap.size, 3, none⟩ = some x3 ∧ w1.cell? ⟨w.heap.size, 4, none⟩ = some x4) ∧ w.heap.size < w1.heap.size := by
 have hb := hg.block w.heap.size (by simp) (fun e => by have := hne _ e.symm; omega)
 have hs := hg.size
 have hc : ∀ j, w1.cell? ⟨w.heap.size, j, none⟩ = (w.alloc (.cells #[x0, x1, x2, x3, x4] t)).cell? ⟨w.heap.size, j, none⟩ := fun j => World.cell?_of_block (a := ⟨w.heap.size, j, none⟩) hb
 refine ⟨⟨?_, ?_, ?_, ?_, ?_⟩, by simp at hs; omega⟩ <;> (rw [hc]; simp)
theorem checkStanding_some (ao : Option Addr) (cap : Nat) (ls : List Ln) (w : World) (h0 : 0 < ls.length) (hcap : ls.length ≤ cap) (hl : ls.length ≤ 60) (hi : LinesAt w.heap.size w ao ls) (hz : ∀ l ∈ ls, LnSz l) (he : Env w) :
    Calls Tryz.prog 61 #[.slice ao ls.length cap] w fun e w' => ∃ v, e = .returned v ∧ Below w.heap.size w w' ∧ ((v = .nilIface ∧ standB ls backL) ∨ (z_eg v ∧ ¬ standB ls backL)) := by
  have HL : Hid (LinesAt w.heap.size w ao ls) := hi
  have HZ : Hid (∀ l ∈ ls, LnSz l) := hz
  have HE : Hid (Env w) := he
  have hne : ((ls.length : Int) == 0) = false := beq_eq_false_iff_ne.2 (by omega)
  clear hi hz he
  go_enter Tryz.func61, Tryz.ntmps61
  go_wp2
  go_loopw [3, 17] (fun x i wr => ∃ (k : Nat) (os : List Opn), k ≤ ls.length ∧ i = .int .i64 k ∧ os.length ≤ k ∧ Hid (wr.ownsRow w.heap.size 174 2 x os.length (z_aB os)) ∧ Hid (Below w.heap.size w wr) ∧ w.heap.size ≤ wr.heap.size ∧ Hid (z_aL true [] (z_bf (ls.take k)) = some os) ∧ Hid (∀ l ∈ ls.take k, backL l = true) ∧ Hid (k = ls.length → os = [])) (fun _ i _ => ls.length - (intOf i).toNat)
  case atStart => exact ⟨0, [], Nat.zero_le _, rfl, Nat.le_refl _, World.ownsRow_nil _ _ _ _, Below.refl _ _, Nat.le_refl _, rfl, by simp [Hid], fun h => by omega⟩
  case round =>
    obtain ⟨k, os, hk, rfl, hos, HO1, HB1, hws, HP, HA, HX⟩ := hrel
    obtain ⟨xo, xc, rfl, hxc⟩ := z_aq HO1.out
    by_cases hlt : k < ls.length
    · obtain ⟨b, off, rfl, hB, aoA, capA, hcA, q0, q1, q2, q3, q4, hA⟩ := HL.out k hlt
      have hlz := HZ.out _ (List.getElem_mem hlt)
      have c0 := (HB1.out.cell (p := ⟨b, off + k * 5, none⟩) hB).trans q0
      have c1 := (HB1.out.cell (p := ⟨b, off + k * 5 + 1, none⟩) hB).trans q1
      have c2 := (HB1.out.cell (p := ⟨b, off + k * 5 + 2, none⟩) hB).trans q2
      have c3 := (HB1.out.cell (p := ⟨b, off + k * 5 + 3, none⟩) hB).trans q3
      have c4 := (HB1.out.cell (p := ⟨b, off + k * 5 + 4, none⟩) hB).trans q4
      have HAr : Hid (StrsAt 0 w.heap.size w aoA ls[k].2.args) := hA
      have HST := z_f2 hlt HP.out
      have HST' : Hid (z_aL true [] (z_bf (ls.take (k + 1))) = z_bo (decide (k = 0)) os ls[k].1) := HST
      obtain ⟨first, hfi⟩ : ∃ f : Bool, decide (k = 0) = f := ⟨_, rfl⟩
      rw [hfi] at HST'
      have hf : ((k : Int) == 0) = first := by
        rw [← hfi]; by_cases h : k = 0
        · subst h; rfl
        · have : ((k : Int) == 0) = false := by simp; omega
          rw [this, decide_eq_false h]
      clear q0 q1 q2 q3 q4 hA HST hfi
      obtain ⟨L, hL⟩ : ∃ L, L = ls[k] := ⟨_, rfl⟩
      rw [← hL] at c0 c1 c2 c3 c4 hlz HAr HST' hcA
      obtain ⟨kd, d⟩ := L
      have HBK : Hid (∀ bb, z_br kd d = bb → backL ls[k] = bb) := fun bb h => by rw [← hL]; exact h
      clear hL
      obtain ⟨z1, z2, z3, z4, z5⟩ := hlz
      have HZ5 : Hid (∀ s ∈ d.args, s.size ≤ 1048576) := z5
      clear z5
      simp only at c0 c1 c2 c3 c4 hcA z1 z2 z3 z4
      have hsl := z_kO os kd first
      go_wp2_with fail
      refine (z_gZ os _ kd first w.heap.size _ (by simp; omega) (by omega) (HO1.out.alloc _)).mono ?_
      rintro e w2 ⟨v2, rfl, hg2, ho2⟩
      obtain ⟨⟨x0, x1, x2, x3, x4⟩, hw2⟩ := z_oe hg2 (fun j hj => (HO1.out.lt j hj).2)
      have HB2 : Hid (Below w.heap.size w w2) := HB1.out.trans (((Below.refl _ _).alloc (Nat.le_refl _) _ |>.mono hws).trans (z_dr hg2 (by simp; omega) (fun j hj => (HO1.out.lt j hj).1)))
      obtain ⟨r, hr⟩ : ∃ r, r = z_aS os kd first := ⟨_, rfl⟩
      rw [← hr] at ho2 hsl ⊢
      have HR : Hid (r = z_aS os kd first) := hr
      clear hr hg2
      obtain ⟨os2, fits⟩ := r
      simp only at ho2 hsl ⊢
      obtain ⟨vo, vc, rfl, hvc⟩ := z_aq ho2
      have HO2 : Hid (w2.ownsRow w.heap.size 174 2 (.slice vo os2.length vc) os2.length (z_aB os2)) := ho2
      clear ho2
      have HSt : Hid (z_aL true [] (z_bf (ls.take (k + 1))) = if fits = true ∧ ¬ (z_am kd = true ∧ 5 ≤ os.length) then some os2 else none) := by
        show _ = _
        rw [HST'.out, z_bo, ← HR.out]
      have HA1 : Hid (backL ls[k] = true → ∀ l ∈ ls.take (k + 1), backL l = true) := by
        intro hb l hl
        rw [List.take_succ_eq_append_getElem hlt] at hl
        rcases List.mem_append.1 hl with h | h
        · exact HA.out l h
        · have : l = ls[k] := by simpa using h
          rw [this]; exact hb
      have combos : ∃ last some2 : Bool, ((k : Int) == (ls.length : Int) - 1) = last ∧ decide (0 < os2.length) = some2 ∧ Hid (last = true ↔ k + 1 = ls.length) ∧ Hid (some2 = true ↔ os2 ≠ []) := by
        refine ⟨_, _, rfl, rfl, ?_, ?_⟩
        · show _ ↔ _; simp; omega
        · show _ ↔ _
          rw [decide_eq_true_iff, ← List.length_pos_iff]
      obtain ⟨last, some2, hlast, hsome, HLa, HSo⟩ := combos
      have HI2 : Hid (StrsAt 0 w2.heap.size w2 aoA d.args) := HAr.out.later HB2.out
      have HE2 : Hid (Env w2) := HE.out.later HB2.out
      clear HST' HR HA HB1 HO1 HAr
      cases last <;> cases some2
      all_goals
        go_wp2_with fail
        refine (z_g8 kd aoA capA d w2 hcA z1 z2 z3 z4 HZ5.out HI2.out HE2.out).mono ?_
        rintro e w3 ⟨rfl, hb3⟩
        have HB3 : Hid (Below w.heap.size w w3) := HB2.out.trans (hb3.mono (by omega))
        have HO3 : Hid (w3.ownsRow w.heap.size 174 2 (.slice vo os2.length vc) os2.length (z_aB os2)) := z_ax HO2.out hb3
        have y0 := (hb3.cell (p := ⟨wr.heap.size, 0, none⟩) hw2).trans x0
        have hws3 : w.heap.size ≤ w3.heap.size := by have := hb3.size; omega
        cases hbk : z_br kd d with
        | false =>
          have HN : Hid (¬ standB ls backL) := z_hW hlt (HBK.out _ hbk)
          clear hb3 x0 x1 x2 x3 x4
          go_wp2
          go_ret
          exact ⟨_, rfl, HB3.out, .inr ⟨⟨_, _, rfl, by decide⟩, HN.out⟩⟩
        | true =>
          have HBt : Hid (∀ l ∈ ls.take (k + 1), backL l = true) := HA1.out (HBK.out _ hbk)
          clear hb3 x0 x1 x2 x3 x4
          cases fits with
          | false =>
            have HN : Hid (¬ standB ls backL) := fun h => z_gz (k := k + 1) (by rw [HSt.out]; simp) h.2.2
            go_wp2
            go_ret
            exact ⟨_, rfl, HB3.out, .inr ⟨⟨_, _, rfl, by decide⟩, HN.out⟩⟩
          | true =>
            first
              | (have HN : Hid (¬ standB ls backL) := fun h => by
                   have h1 : k + 1 = ls.length := HLa.out.1 (by trivial)
                   have h2 := HSo.out.1 (by trivial)
                   have h3 := HSt.out
                   rw [h1, List.take_length, h.2.2] at h3
                   split at h3
                   · exact h2 (Option.some.inj h3).symm
                   · cases h3
                 go_wp2
                 go_ret
                 exact ⟨_, rfl, HB3.out, .inr ⟨⟨_, _, rfl, by decide⟩, HN.out⟩⟩)
              | (have HX2 : Hid (k + 1 = ls.length → os2 = []) := fun h => by
                   first
                     | exact Classical.byContradiction fun hn => Bool.false_ne_true (HSo.out.2 hn)
                     | exact absurd (HLa.out.2 h) Bool.false_ne_true
                 cases hop : z_am kd with
                 | false =>
                   have HP2 : Hid (z_aL true [] (z_bf (ls.take (k + 1))) = some os2) := by show _ = _; rw [HSt.out, if_pos ⟨rfl, fun h => by rw [hop] at h; cases h.1⟩]
                   go_wp2_with (go_at_call 84; refine (z_bb _ _).mono ?_; rintro e w3 ⟨rfl, rfl⟩; rw [hop])
                   go_roundw
                   case rel => exact ⟨k + 1, os2, by omega, by go_num, by omega, HO3, HB3, hws3, HP2, HBt, HX2⟩
                   case measure => simp [intOf]; omega
                 | true =>
                   by_cases h5 : 5 ≤ os.length
                   · have HN : Hid (¬ standB ls backL) := fun h => z_gz (k := k + 1) (by rw [HSt.out, if_neg (fun hh => hh.2 ⟨hop, h5⟩)]) h.2.2
                     have hd : decide (5 ≤ (os.length : Int)) = true := decide_eq_true (by omega)
                     have hd2 : decide (5 ≤ os.length) = true := decide_eq_true h5
                     go_wp2_with (go_at_call 84; refine (z_bb _ _).mono ?_; rintro e w3 ⟨rfl, rfl⟩; rw [hop])
                     go_ret
                     exact ⟨_, rfl, HB3.out, .inr ⟨⟨_, _, rfl, by decide⟩, HN.out⟩⟩
                   · have HP2 : Hid (z_aL true [] (z_bf (ls.take (k + 1))) = some os2) := by show _ = _; rw [HSt.out, if_pos ⟨rfl, fun h => h5 h.2⟩]
                     have hd : decide (5 ≤ (os.length : Int)) = false := decide_eq_false (by omega)
                     have hd2 : decide (5 ≤ os.length) = false := decide_eq_false h5
                     clear h5
                     go_wp2_with (go_at_call 84; refine (z_bb _ _).mono ?_; rintro e w3 ⟨rfl, rfl⟩; rw [hop])
                     go_roundw
                     case rel => exact ⟨k + 1, os2, by omega, by go_num, by omega, HO3, HB3, hws3, HP2, HBt, HX2⟩
                     case measure => simp [intOf]; omega)
    · have e0 : k = ls.length := by omega
      have HN : Hid (standB ls backL) := by
        have h1 := HP.out
        have h2 := HA.out
        rw [e0, List.take_length] at h1 h2
        rw [HX.out e0] at h1
        exact ⟨fun h => by rw [h] at h0; simp at h0, h2, h1⟩
      go_wp2
      go_ret
      exact ⟨_, rfl, HB1.out, .inl ⟨rfl, HN.out⟩⟩
end
section
open Go.RowKit
theorem z_eh {xs ys : List ByteArray} {k : Nat} (hx : k < xs.length) (hy : k < ys.length) (h : xs.take k = ys.take k) (he : xs[k] = ys[k]) : xs.take (k + 1) = ys.take (k + 1) := by
 rw [List.take_succ_eq_append_getElem hx, List.take_succ_eq_append_getElem hy, h, he]
theorem z_k0 (k k' : Int) (d d' : Bd) (a1 a2 : Option Addr) (c c' : Nat) (A1 A2 : Nat) (w : World) (hx : d.args.length ≤ 9223372036854775807) (hy : d'.args.length ≤ 9223372036854775807) (h1 : StrsAt A1 w.heap.size w a1 d.args) (h2 : StrsAt A2 w.heap.size w a2 d'.args) :
  Calls Tryz.prog 139 #[.agg #[.int .i64 k, .string d.to, .string d.name, .slice a1 d.args.length c, .string d.undo], .agg #[.int .i64 k', .string d'.to, .string d'.name, .slice a2 d'.args.length c', .string d'.undo]] w fun e w' => e = .returned (.bool (z_a0 k k' d d')) ∧ Below w.heap.size w w' := by
 have H1 : Hid (StrsAt A1 w.heap.size w a1 d.args) := h1
 have H2 : Hid (StrsAt A2 w.heap.size w a2 d'.args) := h2
 clear h1 h2
 have HB : Hid (∀ L L' : Obj, Below w.heap.size w ((w.alloc L).alloc L')) := fun L L' => ((Below.refl _ _).alloc (Nat.le_refl _) _).alloc (by simp) _
 cases q1 : (k == k') with
 | false =>
  have b1 : (k != k') = true := by rw [bne, q1]; rfl
  go_enter Tryz.func139, Tryz.ntmps139
  go_wp2
  go_ret
  exact ⟨by simp only [z_a0, q1] <;> rfl, HB.out _ _⟩
 | true =>
  have b1 : (k != k') = false := by rw [bne, q1]; rfl
  cases q2 : (d.to.toList == d'.to.toList) with
  | false =>
   go_enter Tryz.func139, Tryz.ntmps139
   go_wp2
   go_ret
   exact ⟨by simp only [z_a0, q1, q2] <;> rfl, HB.out _ _⟩
  | true =>
   cases q3 : (d.name.toList == d'.name.toList) with
   | false =>
    go_enter Tryz.func139, Tryz.ntmps139
    go_wp2
    go_ret
    exact ⟨by simp only [z_a0, q1, q2, q3] <;> rfl, HB.out _ _⟩
   | true =>
    cases q4 : (d.undo.toList == d'.undo.toList) with
    | false =>
     go_enter Tryz.func139, Tryz.ntmps139
     go_wp2
     go_ret
     exact ⟨by simp only [z_a0, q1, q2, q3, q4] <;> rfl, HB.out _ _⟩
    | true =>
     cases q5 : ((d.args.length : Int) == (d'.args.length : Int)) with
     | false =>
      have b5 : ((d.args.length : Int) != (d'.args.length : Int)) = true := by rw [bne, q5]; rfl
      have HQ : Hid (decide (d.args = d'.args) = false) := by
       show _ = _
       rw [decide_eq_false_iff_not]
       intro e; rw [e] at q5; simp at q5
      go_enter Tryz.func139, Tryz.ntmps139
      go_wp2
      go_ret
      exact ⟨by simp only [z_a0, q1, q2, q3, q4, HQ.out] <;> rfl, HB.out _ _⟩
     | true =>
      have hlen : d.args.length = d'.args.length := by have := eq_of_beq q5; omega
      have b5 : ((d.args.length : Int) != (d'.args.length : Int)) = false := by rw [bne, q5]; rfl
      have HLEN : Hid (d.args.length = d'.args.length) := hlen
      clear hlen
      go_enter Tryz.func139, Tryz.ntmps139
      go_wp2
      go_loopw [5] (fun i wr => ∃ n : Nat, n ≤ d.args.length ∧ i = .int .i64 n ∧ Hid (d.args.take n = d'.args.take n) ∧ Hid (Below w.heap.size w wr) ∧ wr.cell? ⟨w.heap.size, 3, none⟩ = some (.slice a1 d.args.length c) ∧ wr.cell? ⟨w.heap.size + 1, 3, none⟩ = some (.slice a2 d'.args.length c')) (fun i _ => d.args.length - (intOf i).toNat)
      case atStart => exact ⟨0, Nat.zero_le _, rfl, rfl, HB.out _ _, by simp, by simp⟩
      case round =>
       obtain ⟨n, hn, rfl, HT, HBW, r0, r1⟩ := hrel
       by_cases hlt : n < d.args.length
       ·have hlt2 : n < d'.args.length := by rw [← HLEN.out]; exact hlt
        obtain ⟨b, off, rfl, hB, hc0⟩ := H1.out.at n hlt
        obtain ⟨b2, off2, rfl, hB2, hc2⟩ := H2.out.at n hlt2
        have hc1 := (HBW.out.cell (p := ⟨b, off + n, none⟩) (by show b < _; omega)).trans hc0
        have hc3 := (HBW.out.cell (p := ⟨b2, off2 + n, none⟩) (by show b2 < _; omega)).trans hc2
        clear hc0 hc2
        cases hq : (d.args[n].toList == d'.args[n].toList) with
        | true =>
         have HN : Hid (d.args.take (n + 1) = d'.args.take (n + 1)) := z_eh hlt hlt2 HT.out (by rw [z_aI] at hq; simpa using hq)
         go_wp2
         go_region
         go_wp2
         go_roundw
         case rel => exact ⟨n + 1, by omega, by go_num, HN, HBW.out.drew, r0, r1⟩
         case measure => simp [intOf]; omega
        | false =>
         have HQ : Hid (decide (d.args = d'.args) = false) := by
          show _ = _
          rw [decide_eq_false_iff_not]
          intro e
          have : d.args[n] = d'.args[n] := by simp only [e]
          rw [z_aI] at hq; simp [this] at hq
         go_wp2
         go_region
         go_wp2
         go_ret
         exact ⟨by simp only [z_a0, q1, q2, q3, q4, HQ.out] <;> rfl, HBW.out.drew⟩
       ·have HQ : Hid (decide (d.args = d'.args) = true) := by
         show _ = _
         rw [decide_eq_true_iff]
         have h3 := HT.out
         rw [List.take_of_length_le (by omega), List.take_of_length_le (by rw [← HLEN.out]; omega)] at h3
         exact h3
        go_wp2
        go_ret
        exact ⟨by simp only [z_a0, q1, q2, q3, q4, HQ.out] <;> rfl, HBW.out⟩
end
end Go.Proofs.YtlbjjbolbopfmaaGreatDoor
