import Derived.Test.YtlbjjbolbopfmaaGreatDoorH08
import Derived.Test.YtlbjjbolbopfmaaGreatDoorH06
import Derived.Test.YtlbjjbolbopfmaaGreatDoorH07
import Derived.Test.YtlbjjbolbopfmaaGreatDoorH00
namespace Go.Proofs.YtlbjjbolbopfmaaGreatDoor
set_option maxHeartbeats 2000000
set_option maxRecDepth 1000000
set_option linter.unusedVariables false
section
open Go.RowKit
theorem wordK_first (k : Int) (h1 : 1 ≤ k) (h2 : k ≤ 15) : ∃ b r, (wordK k).data.toList = b :: r ∧ b ≠ 32 := by
 have hk : k = 1 ∨ k = 2 ∨ k = 3 ∨ k = 4 ∨ k = 5 ∨ k = 6 ∨ k = 7 ∨ k = 8 ∨ k = 9 ∨ k = 10 ∨ k = 11 ∨ k = 12 ∨ k = 13 ∨ k = 14 ∨ k = 15 := by omega
 rcases hk with rfl | rfl | rfl | rfl | rfl | rfl | rfl | rfl | rfl | rfl | rfl | rfl | rfl | rfl | rfl <;> exact ⟨_, _, rfl, by decide⟩
theorem lineWords_ne (k : Int) (d : Bd) (h1 : 1 ≤ k) (h2 : k ≤ 15) : lineWords k d ≠ [] := by
 obtain ⟨r, hr⟩ := outW_cons k d
 obtain ⟨b, t, hb, hne⟩ := wordK_first k h1 h2
 have e : (joinW (outW k d)).data.toList = b :: (t ++ Lib.joinTail [32] (r.map (·.data.toList))) := by
  show (Lib.join _ _).toArray.toList = _
  rw [hr, List.map_cons, Lib.join_cons, hb]; rfl
 apply wordsW_ne
 ·have : (joinW (outW k d)).data.toList.length = (joinW (outW k d)).size := by simp
  rw [e] at this; simp at this; omega
 ·have h0 : 0 < (joinW (outW k d)).size := by
   have : (joinW (outW k d)).data.toList.length = (joinW (outW k d)).size := by simp
   rw [e] at this; simp at this; omega
  rw [get_at _ 0 h0]
  have e2 : (joinW (outW k d)).data.toList[0]? = some b := by rw [e]; rfl
  have e3 : (joinW (outW k d)).data.toList[0]? = some ((joinW (outW k d))[0]'h0) := by
   rw [List.getElem?_eq_getElem (by simpa using h0)]; rfl
  rw [e3] at e2
  rw [Option.some.inj e2]; exact hne
theorem outW_size (k : Int) (d : Bd) (M : Nat) (hM : 8 ≤ M) (h1 : d.to.size ≤ M) (h2 : d.name.size ≤ M) (h3 : d.undo.size ≤ M) (h4 : ∀ s ∈ d.args, s.size ≤ M) : ∀ s ∈ outW k d, s.size ≤ M := by
 have hk := wordK_size k
 have hget : ∀ i, (d.args.getD i eS).size ≤ M := by
  intro i
  by_cases hi : i < d.args.length
  ·rw [show d.args.getD i eS = d.args[i] by simp [List.getD, hi]]; exact h4 _ (List.getElem_mem hi)
  ·rw [show d.args.getD i eS = eS by simp [List.getD, List.getElem?_eq_none (Nat.le_of_not_lt hi)]]; exact Nat.zero_le _
 intro s hs
 rw [outW] at hs
 split at hs
 ·simp only [List.mem_cons, List.not_mem_nil, or_false] at hs
  rcases hs with rfl | rfl | rfl | rfl
  ·omega
  ·exact hget 0
  ·exact h2
  ·exact hget 1
 ·simp only [List.mem_append, List.mem_cons] at hs
  rcases hs with (((rfl | hs) | hs) | hs) | hs
  ·omega
  ·have := (List.mem_filter.1 hs).1
   simp only [List.mem_cons, List.not_mem_nil, or_false] at this
   rcases this with rfl | rfl
   ·exact h1
   ·exact h2
  ·split at hs
   ·have : s = forS := by simpa using hs
    subst this; exact Nat.le_trans (by decide) hM
   ·simp at hs
  ·exact h4 s hs
  ·rw [undoW] at hs
   split at hs
   ·simp at hs
   ·simp only [List.mem_cons, List.not_mem_nil, or_false] at hs
    rcases hs with rfl | rfl
    ·exact Nat.le_trans (by decide) hM
    ·exact h3
theorem readP_len {k : Int} {ws : List ByteArray} {d : Bd} (h : readP k ws = some d) : d.args.length ≤ ws.length := by
 have hn : ∀ {x}, pNext ws = some x → x.args.length ≤ ws.length := by
  intro x hx
  rw [pNext.eq_def] at hx
  split at hx
  ·cases hx; exact Nat.le_refl _
  ·cases hx
 have h0 : ∀ {vs : List ByteArray} {u x}, vs.length ≤ ws.length → pDo0 vs u = some x → x.args.length ≤ ws.length := by
  intro vs u x hv hx
  rw [pDo0.eq_def] at hx
  split at hx
  ·split at hx
   ·cases hx; simp at hv ⊢; omega
   ·cases hx
  ·cases hx
 rw [readP] at h
 split at h
 ·rw [pHead.eq_def] at h
  split at h
  ·cases h
  ·split at h
   ·cases h; simp
   ·cases h
 split at h
 ·rw [pLet.eq_def] at h
  split at h
  ·split at h
   ·cases h; simp
   ·cases h
  ·cases h
 split at h
 ·rw [pDo.eq_def] at h
  split at h
  ·split at h
   ·exact h0 (by simp) h
   ·cases h
  ·exact h0 (Nat.le_refl _) h
 split at h
 ·rw [pGet.eq_def] at h
  split at h
  ·split at h
   ·cases h; simp
   ·cases h
  ·split at h
   ·cases h; simp
   ·cases h
  ·cases h
 split at h
 ·rw [pTest.eq_def] at h
  split at h
  ·split at h
   ·cases h; simp
   ·cases h
  ·cases h
 split at h
 ·rw [pNothing.eq_def] at h
  split at h
  ·cases h; simp
  ·cases h
 split at h
 ·rw [pOperand.eq_def] at h
  split at h
  ·exact hn h
  ·cases h
 split at h
 ·rw [pPatch.eq_def] at h
  split at h
  ·split at h
   ·cases h; simp
   ·cases h
  ·cases h
 split at h
 ·exact hn h
 ·cases h
theorem readsBack_in (k : Int) (ao : Option Addr) (cap : Nat) (d : Bd) (w : World) (hk1 : 1 ≤ k) (hk2 : k ≤ 15) (hbr : branchK k = true → d.args.length = 2) (hcap : d.args.length ≤ cap) (hl : d.args.length ≤ 1048576)
  (hs : ∀ s ∈ outW k d, s.size ≤ 1048576) (hi : StrsAt 0 w.heap.size w ao d.args) (he : Env w) :
  Calls Tryz.prog 93 #[.agg #[.int .i64 k, .string d.to, .string d.name, .slice ao d.args.length cap, .string d.undo]] w fun e w' => e = .returned (.bool (backB k d)) ∧ Below w.heap.size w w' := by
 have HS : Hid (∀ s ∈ outW k d, s.size ≤ 1048576) := hs
 have HI : Hid (StrsAt 0 w.heap.size w ao d.args) := hi
 have HE : Hid (Env w) := he
 have HBR : Hid (branchK k = true → d.args.length = 2) := hbr
 clear hs hi he hbr
 have hk3 : ¬ k < 1 := by omega
 go_enter Tryz.func93, Tryz.ntmps93
 obtain ⟨a, r, HW⟩ : ∃ a r, Hid (wordsW (joinW (outW k d)) = a :: r) := by
  have h := lineWords_ne k d hk1 hk2
  cases hx : lineWords k d with
  | nil => exact absurd hx h
  | cons a r => exact ⟨a, r, hx⟩
 have HJ : Hid ((joinW (outW k d)).size ≤ 1099518967814) := by
  have h1 := joinW_size 1048576 _ HS.out
  have h2 := outW_len k d
  have h3 : (outW k d).length * (1048576 + 1) ≤ 1048582 * (1048576 + 1) := Nat.mul_le_mul_right _ (by omega)
  show _ ≤ _
  omega
 have HLr : Hid (r.length ≤ 1099518967814) := by
  have h1 := wordsW_len (joinW (outW k d))
  rw [HW.out] at h1
  have := HJ.out
  show _ ≤ _
  simp at h1; omega
 have HSz : Hid (∀ s ∈ a :: r, s.size ≤ 1099518967814) := fun s hs => by
  have h1 := wordsW_size (joinW (outW k d)) s (by rw [HW.out]; exact hs)
  have := HJ.out; omega
 go_wp2_with fail
 refine (isBranch_any _ _ _ _ _ _).mono ?_
 rintro e w2 ⟨rfl, hb2⟩
 obtain ⟨⟨x0, x1, x2, x3, x4⟩, hf, hlt⟩ := box5 hb2
 have HB2 : Hid (Below w.heap.size w w2) := ((Below.refl _ _).alloc (Nat.le_refl _) _).trans (hb2.mono (by simp))
 clear hb2
 cases hb : branchK k with
 | false =>
  go_wp2_with fail
  refine (writeLine_any k ao cap d w2 HBR.out hcap hl HS.out (HI.out.later HB2.out)).mono ?_
  rintro e w3 ⟨rfl, hb3⟩
  have HB3 : Hid (Below w2.heap.size w2 w3) := hb3
  clear hb3
  go_wp2_with fail
  have hsp := splitWords_any (joinW (outW k d)) w3 (by have := HJ.out; omega)
  rw [HW.out] at hsp
  refine hsp.mono ?_
  clear hsp
  rintro e w4 ⟨v4, rfl, hb4, ao4, c4, rfl, hc4, hi4⟩
  have HB4 : Hid (Below w2.heap.size w2 w4) := HB3.out.trans (hb4.mono HB3.out.size)
  have HI4 : Hid (StrsAt 0 w4.heap.size w4 ao4 (a :: r)) := hi4.mono (Nat.zero_le _) (Nat.le_refl _)
  have hc4' : r.length + 1 ≤ c4 := hc4
  clear hb4 hi4 hc4
  simp only [List.length_cons]
  go_wp2_with fail
  refine (readLine_any ao4 c4 a r w4 hc4' (by have := HLr.out; omega) (fun s h => by have := HSz.out s h; omega) HI4.out (HE.out.later (HB2.out.trans (HB4.out.mono HB2.out.size)))).mono ?_
  rintro e w5 ⟨v5, rfl, hb5, k', d', ⟨ao5, c5, rfl, hc5, hi5⟩, hd⟩
  have hb5' : Below w2.heap.size w2 w5 := HB4.out.trans (hb5.mono HB4.out.size)
  have HB5 : Hid (Below w.heap.size w w5) := HB2.out.trans (hb5'.mono HB2.out.size)
  have y0 := (hb5'.cell (p := ⟨w.heap.size, 0, none⟩) hlt).trans x0
  have y1 := (hb5'.cell (p := ⟨w.heap.size, 1, none⟩) hlt).trans x1
  have y2 := (hb5'.cell (p := ⟨w.heap.size, 2, none⟩) hlt).trans x2
  have y3 := (hb5'.cell (p := ⟨w.heap.size, 3, none⟩) hlt).trans x3
  have y4 := (hb5'.cell (p := ⟨w.heap.size, 4, none⟩) hlt).trans x4
  have hlt5 : w.heap.size < w5.heap.size := by have := hb5'.size; omega
  have HI5 : Hid (StrsAt w4.heap.size w5.heap.size w5 ao5 d'.args) := hi5
  have HD : Hid (∀ d0, readP (kindK a) r = some d0 → d' = d0 ∧ k' = kindK a) := hd
  have HNB : Hid (∀ L : Obj, Below w5.heap.size w5 (w5.alloc L)) := fun L => (Below.refl _ _).alloc (Nat.le_refl _) _
  clear hb5 hb5' hi5 hd x0 x1 x2 x3 x4
  cases ho : readP (kindK a) r with
  | none =>
   have HN : Hid (backB k d = false) := by show _ = _; rw [backB]; simp only [lineWords, HW.out, ho, Bool.and_false]
   go_wp2
   go_ret
   exact ⟨by rw [HN.out]; rfl, HB5.out.trans ((HNB.out _).mono (by omega))⟩
  | some d0 =>
   obtain ⟨e1, e2⟩ := HD.out d0 ho
   subst e1 e2
   have HN : Hid (backB k d = sameLn k (kindK a) d d') := by show _ = _; rw [backB]; simp only [lineWords, HW.out, ho]; rw [decide_eq_true (⟨hk1, hk2⟩ : 1 ≤ k ∧ k ≤ 15), hb]; rfl
   have hl5 : d'.args.length ≤ r.length := readP_len ho
   have hl6 := HLr.out
   clear ho HD
   go_wp2_with fail
   refine (sameLine_any k (kindK a) d d' ao ao5 cap c5 0 w4.heap.size _ (by omega) (by omega) ((HI.out.later HB5.out).later (HNB.out _)) (HI5.out.later (HNB.out _))).mono ?_
   rintro e w6 ⟨rfl, hb6⟩
   have HB6 : Hid (Below w.heap.size w w6) := HB5.out.trans ((HNB.out _).mono (by omega) |>.trans (hb6.mono (by simp; omega)))
   clear hb6
   cases hsm : sameLn k (kindK a) d d' with
   | false =>
    go_wp2
    go_ret
    exact ⟨by rw [HN.out, hsm]; rfl, HB6.out⟩
   | true =>
    go_wp2
    go_ret
    exact ⟨by rw [HN.out, hsm]; rfl, HB6.out⟩
 | true =>
  have H2 : Hid (d.args.length = 2) := HBR.out hb
  have hq2 : ((d.args.length : Int) == 2) = true := by have := H2.out; simp; omega
  go_wp2_with fail
  refine (writeLine_any k ao cap d w2 HBR.out hcap hl HS.out (HI.out.later HB2.out)).mono ?_
  rintro e w3 ⟨rfl, hb3⟩
  have HB3 : Hid (Below w2.heap.size w2 w3) := hb3
  clear hb3
  go_wp2_with fail
  have hsp := splitWords_any (joinW (outW k d)) w3 (by have := HJ.out; omega)
  rw [HW.out] at hsp
  refine hsp.mono ?_
  clear hsp
  rintro e w4 ⟨v4, rfl, hb4, ao4, c4, rfl, hc4, hi4⟩
  have HB4 : Hid (Below w2.heap.size w2 w4) := HB3.out.trans (hb4.mono HB3.out.size)
  have HI4 : Hid (StrsAt 0 w4.heap.size w4 ao4 (a :: r)) := hi4.mono (Nat.zero_le _) (Nat.le_refl _)
  have hc4' : r.length + 1 ≤ c4 := hc4
  clear hb4 hi4 hc4
  simp only [List.length_cons]
  go_wp2_with fail
  refine (readLine_any ao4 c4 a r w4 hc4' (by have := HLr.out; omega) (fun s h => by have := HSz.out s h; omega) HI4.out (HE.out.later (HB2.out.trans (HB4.out.mono HB2.out.size)))).mono ?_
  rintro e w5 ⟨v5, rfl, hb5, k', d', ⟨ao5, c5, rfl, hc5, hi5⟩, hd⟩
  have hb5' : Below w2.heap.size w2 w5 := HB4.out.trans (hb5.mono HB4.out.size)
  have HB5 : Hid (Below w.heap.size w w5) := HB2.out.trans (hb5'.mono HB2.out.size)
  have y0 := (hb5'.cell (p := ⟨w.heap.size, 0, none⟩) hlt).trans x0
  have y1 := (hb5'.cell (p := ⟨w.heap.size, 1, none⟩) hlt).trans x1
  have y2 := (hb5'.cell (p := ⟨w.heap.size, 2, none⟩) hlt).trans x2
  have y3 := (hb5'.cell (p := ⟨w.heap.size, 3, none⟩) hlt).trans x3
  have y4 := (hb5'.cell (p := ⟨w.heap.size, 4, none⟩) hlt).trans x4
  have hlt5 : w.heap.size < w5.heap.size := by have := hb5'.size; omega
  have HI5 : Hid (StrsAt w4.heap.size w5.heap.size w5 ao5 d'.args) := hi5
  have HD : Hid (∀ d0, readP (kindK a) r = some d0 → d' = d0 ∧ k' = kindK a) := hd
  have HNB : Hid (∀ L : Obj, Below w5.heap.size w5 (w5.alloc L)) := fun L => (Below.refl _ _).alloc (Nat.le_refl _) _
  clear hb5 hb5' hi5 hd x0 x1 x2 x3 x4
  cases ho : readP (kindK a) r with
  | none =>
   have HN : Hid (backB k d = false) := by show _ = _; rw [backB]; simp only [lineWords, HW.out, ho, Bool.and_false]
   go_wp2
   go_ret
   exact ⟨by rw [HN.out]; rfl, HB5.out.trans ((HNB.out _).mono (by omega))⟩
  | some d0 =>
   obtain ⟨e1, e2⟩ := HD.out d0 ho
   subst e1 e2
   have HN : Hid (backB k d = sameLn k (kindK a) d d') := by show _ = _; rw [backB]; simp only [lineWords, HW.out, ho]; rw [decide_eq_true (⟨hk1, hk2⟩ : 1 ≤ k ∧ k ≤ 15), decide_eq_true H2.out, hb]; rfl
   have hl5 : d'.args.length ≤ r.length := readP_len ho
   have hl6 := HLr.out
   clear ho HD
   go_wp2_with fail
   refine (sameLine_any k (kindK a) d d' ao ao5 cap c5 0 w4.heap.size _ (by omega) (by omega) ((HI.out.later HB5.out).later (HNB.out _)) (HI5.out.later (HNB.out _))).mono ?_
   rintro e w6 ⟨rfl, hb6⟩
   have HB6 : Hid (Below w.heap.size w w6) := HB5.out.trans ((HNB.out _).mono (by omega) |>.trans (hb6.mono (by simp; omega)))
   clear hb6
   cases hsm : sameLn k (kindK a) d d' with
   | false =>
    go_wp2
    go_ret
    exact ⟨by rw [HN.out, hsm]; rfl, HB6.out⟩
   | true =>
    go_wp2
    go_ret
    exact ⟨by rw [HN.out, hsm]; rfl, HB6.out⟩
end
section
open Go.RowKit
theorem backB_out (k : Int) (d : Bd) (h : ¬ (1 ≤ k ∧ k ≤ 15)) : backB k d = false := by
 rw [backB, decide_eq_false h]; rfl
theorem backB_branch (k : Int) (d : Bd) (h : branchK k = true) (h2 : d.args.length ≠ 2) : backB k d = false := by
 rw [backB, h, decide_eq_false h2]; simp
theorem readsBack_any (k : Int) (ao : Option Addr) (cap : Nat) (d : Bd) (w : World) (hcap : d.args.length ≤ cap) (hl : d.args.length ≤ 1048576)
  (h1 : d.to.size ≤ 1048576) (h2 : d.name.size ≤ 1048576) (h3 : d.undo.size ≤ 1048576) (h4 : ∀ s ∈ d.args, s.size ≤ 1048576) (hi : StrsAt 0 w.heap.size w ao d.args) (he : Env w) :
  Calls Tryz.prog 93 #[.agg #[.int .i64 k, .string d.to, .string d.name, .slice ao d.args.length cap, .string d.undo]] w fun e w' => e = .returned (.bool (backB k d)) ∧ Below w.heap.size w w' := by
 by_cases hk1 : 1 ≤ k
 ·by_cases hk2 : k ≤ 15
  ·by_cases hb : branchK k = true ∧ d.args.length ≠ 2
   ·obtain ⟨hb, hne⟩ := hb
    have HN : Hid (backB k d = false) := backB_branch k d hb hne
    have HB0 : Hid (branchK k = true) := hb
    have hq2 : ((d.args.length : Int) == 2) = false := by simp; omega
    have hk3 : ¬ k < 1 := by omega
    clear hi he h4 h1 h2 h3 hb hne
    go_enter Tryz.func93, Tryz.ntmps93
    go_wp2_with fail
    refine (isBranch_any _ _ _ _ _ _).mono ?_
    rintro e w2 ⟨rfl, hb2⟩
    rw [HB0.out]
    obtain ⟨⟨x0, x1, x2, x3, x4⟩, hf, hlt⟩ := box5 hb2
    have HB2 : Hid (Below w.heap.size w w2) := ((Below.refl _ _).alloc (Nat.le_refl _) _).trans (hb2.mono (by simp))
    clear hb2
    go_wp2
    go_ret
    exact ⟨by rw [HN.out]; rfl, HB2.out⟩
   ·exact readsBack_in k ao cap d w hk1 hk2 (fun h => by have := hb; simp only [h, true_and, ne_eq, Classical.not_not] at this; exact this) hcap hl (outW_size k d 1048576 (by omega) h1 h2 h3 h4) hi he
  ·have HN : Hid (backB k d = false) := backB_out k d (by omega)
   have hk3 : ¬ k < 1 := by omega
   have hk4 : 15 < k := by omega
   clear hi he
   go_enter Tryz.func93, Tryz.ntmps93
   go_wp2
   go_ret
   exact ⟨by rw [HN.out]; rfl, (Below.refl _ _).alloc (Nat.le_refl _) _⟩
 ·have HN : Hid (backB k d = false) := backB_out k d (by omega)
  have hk3 : k < 1 := by omega
  clear hi he
  go_enter Tryz.func93, Tryz.ntmps93
  go_wp2
  go_ret
  exact ⟨by rw [HN.out]; rfl, (Below.refl _ _).alloc (Nat.le_refl _) _⟩
end
section
abbrev Opn := Int × Bool
abbrev Ln := Int × Bd
def standL (os : List Opn) (k : Int) (first : Bool) : List Opn × Bool :=
 if (k == 1) != first then (os, false)
 else if opensK k then (os ++ [(k, false)], true)
 else if !closesK k then (os, true)
 else match os.getLast? with
  | none => (os, false)
  | some top =>
   if k = 7 then (os.dropLast ++ [(top.1, true)], choiceK top.1 && !top.2)
   else if k = 10 then (os.dropLast ++ [(top.1, true)], (top.1 == 9) && !top.2)
   else (os.dropLast, (top.1 != 9) || top.2)
def stepO (first : Bool) (os : List Opn) (k : Int) : Option (List Opn) :=
 if (standL os k first).2 = true ∧ ¬ (opensK k = true ∧ 5 ≤ os.length) then some (standL os k first).1 else none
def standP : Bool → List Opn → List Int → Option (List Opn)
 | _, os, [] => some os
 | f, os, k :: r => match stepO f os k with
  | none => none
  | some os' => standP false os' r
theorem standP_snoc (k : Int) : ∀ (f : Bool) (os : List Opn) (ks : List Int), standP f os (ks ++ [k]) = (standP f os ks).bind fun os' => stepO (f && ks.isEmpty) os' k
 | f, os, [] => by
  simp only [List.nil_append, standP, List.isEmpty_nil, Bool.and_true, Option.bind_some]
  cases stepO f os k <;> rfl
 | f, os, a :: r => by
  simp only [List.cons_append, standP, List.isEmpty_cons, Bool.and_false]
  cases stepO f os a with
  | none => rfl
  | some os' => simp only; rw [standP_snoc k false os' r]; simp
theorem standP_none (b : List Int) : ∀ (f : Bool) (os : List Opn) (a : List Int), standP f os a = none → standP f os (a ++ b) = none
 | f, os, [], h => by simp [standP] at h
 | f, os, x :: r, h => by
  simp only [List.cons_append, standP] at h ⊢
  cases hs : stepO f os x with
  | none => rfl
  | some os' => rw [hs] at h; exact standP_none b false os' r h
inductive Bl where
 | nil : Bl
 | plain : Ln → Bl → Bl
 | one : Ln → Bl → Ln → Bl → Bl
 | two : Ln → Bl → Ln → Bl → Ln → Bl → Bl
def Bl.flat : Bl → List Ln
 | .nil => []
 | .plain l r => l :: r.flat
 | .one l p e r => l :: (p.flat ++ e :: r.flat)
 | .two l p m q e r => l :: (p.flat ++ m :: (q.flat ++ e :: r.flat))
def Bl.wf : Bl → Prop
 | .nil => True
 | .plain l r => opensK l.1 = false ∧ closesK l.1 = false ∧ l.1 ≠ 1 ∧ r.wf
 | .one l p e r => opensK l.1 = true ∧ l.1 ≠ 9 ∧ e.1 = 11 ∧ p.wf ∧ r.wf
 | .two l p m q e r => ((choiceK l.1 = true ∧ m.1 = 7) ∨ (l.1 = 9 ∧ m.1 = 10)) ∧ e.1 = 11 ∧ p.wf ∧ q.wf ∧ r.wf
theorem stepO_open {f : Bool} {os os' : List Opn} {k : Int} (h : stepO f os k = some os') (ho : opensK k = true) (hf : (k == 1) = f) : os' = os ++ [(k, false)] := by
 unfold stepO at h
 split at h
 ·rw [standL, hf, ho] at h; simpa using h.symm
 ·cases h
theorem stepO_plain {f : Bool} {os os' : List Opn} {k : Int} (h : stepO f os k = some os') (ho : opensK k = false) (hc : closesK k = false) : os' = os ∧ (k == 1) = f := by
 unfold stepO at h
 split at h
 ·rename_i h1
  by_cases hf : ((k == 1) != f) = true
  ·rw [standL, if_pos hf] at h1; simp at h1
  ·rw [standL, if_neg hf, ho, hc] at h
   refine ⟨by simpa using h.symm, ?_⟩
   simpa using hf
 ·cases h
theorem closesK_iff (k : Int) : closesK k = true ↔ k = 7 ∨ k = 10 ∨ k = 11 := by simp [closesK, or_assoc]
theorem opensK_iff (k : Int) : opensK k = true ↔ k = 6 ∨ k = 14 ∨ k = 8 ∨ k = 9 := by simp [opensK, choiceK, or_assoc]
theorem choiceK_iff (k : Int) : choiceK k = true ↔ k = 6 ∨ k = 14 := by simp [choiceK]
theorem closes_opens {k : Int} (h : closesK k = true) : opensK k = false := by
 rw [closesK_iff] at h
 rcases h with rfl | rfl | rfl <;> rfl
theorem stepO_close {os os' : List Opn} {k x : Int} {t : Bool} (h : stepO false (os ++ [(x, t)]) k = some os') (hc : closesK k = true) :
  (k = 7 ∧ choiceK x = true ∧ t = false ∧ os' = os ++ [(x, true)]) ∨ (k = 10 ∧ x = 9 ∧ t = false ∧ os' = os ++ [(x, true)]) ∨ (k = 11 ∧ (x ≠ 9 ∨ t = true) ∧ os' = os) := by
 have ho := closes_opens hc
 have h1 : (k == 1) = false := by
  rw [closesK_iff] at hc
  rcases hc with rfl | rfl | rfl <;> rfl
 unfold stepO at h
 split at h
 ·rename_i hh
  have hg := hh.1
  rw [standL, h1, ho, hc] at h hg
  rw [closesK_iff] at hc
  rcases hc with rfl | rfl | rfl
  ·left
   simp at h hg
   exact ⟨rfl, hg.1, hg.2, h.symm⟩
  ·right; left
   simp at h hg
   exact ⟨rfl, hg.1, hg.2, h.symm⟩
  ·right; right
   simp at h hg
   exact ⟨rfl, hg, h.symm⟩
 ·cases h
theorem stepO_close_nil {os' : List Opn} {k : Int} (hc : closesK k = true) : stepO false [] k ≠ some os' := by
 intro h
 have ho := closes_opens hc
 have h1 : (k == 1) = false := by
  rw [closesK_iff] at hc
  rcases hc with rfl | rfl | rfl <;> rfl
 unfold stepO at h
 split at h
 ·rename_i hh
  have hg := hh.1
  rw [standL, h1, ho, hc] at hg
  simp at hg
 ·cases h
def kinds (ls : List Ln) : List Int := ls.map (·.1)
theorem tree_of (n : Nat) : ∀ (ls : List Ln) (os : List Opn), ls.length ≤ n → standP false os (kinds ls) = some [] →
  ∃ (t : Bl) (rest : List Ln), ls = t.flat ++ rest ∧ t.wf ∧ ((rest = [] ∧ os = []) ∨ ∃ c r, rest = c :: r ∧ closesK c.1 = true ∧ standP false os (kinds rest) = some []) := by
 induction n with
 | zero =>
  intro ls os hn h
  have : ls = [] := List.length_eq_zero_iff.1 (by omega)
  subst this
  have : os = [] := by simpa [kinds, standP] using h
  exact ⟨.nil, [], rfl, trivial, .inl ⟨rfl, this⟩⟩
 | succ n ih =>
  intro ls os hn0 hh0
  match ls, hn0, hh0 with
  | [], _, h =>
   have : os = [] := by simpa [kinds, standP] using h
   exact ⟨.nil, [], rfl, trivial, .inl ⟨rfl, this⟩⟩
  | l :: r, hn, h =>
   have hn' : r.length ≤ n := by simpa using hn
   cases hc : closesK l.1 with
   | true => exact ⟨.nil, l :: r, rfl, trivial, .inr ⟨l, r, rfl, hc, h⟩⟩
   | false =>
    have h0 := h
    simp only [kinds, List.map_cons, standP] at h
    cases hs : stepO false os l.1 with
    | none => rw [hs] at h; cases h
    | some os1 =>
     rw [hs] at h
     cases ho : opensK l.1 with
     | false =>
      obtain ⟨e0, hk⟩ := stepO_plain hs ho hc
      rw [e0] at h
      obtain ⟨t, rest, e, hw, hr⟩ := ih r os hn' h
      exact ⟨.plain l t, rest, by rw [e]; rfl, ⟨ho, hc, by simpa using hk, hw⟩, hr⟩
     | true =>
      have hf : (l.1 == 1) = false := by
       rw [opensK_iff] at ho
       rcases ho with e | e | e | e <;> rw [e] <;> rfl
      have e1 := stepO_open hs ho hf
      subst e1
      obtain ⟨p, rest, e, hp, hr⟩ := ih r _ hn' h
      rcases hr with ⟨_, hb⟩ | ⟨c, r1, rfl, hcl, hr⟩
      ·simp at hb
      have hlen : p.flat.length + r1.length + 1 ≤ n := by
       have := congrArg List.length e
       simp at this; omega
      simp only [kinds, List.map_cons, standP] at hr
      cases hs1 : stepO false (os ++ [(l.1, false)]) c.1 with
      | none => rw [hs1] at hr; cases hr
      | some os2 =>
       rw [hs1] at hr
       have key : ∀ (hcc : (choiceK l.1 = true ∧ c.1 = 7) ∨ (l.1 = 9 ∧ c.1 = 10)), os2 = os ++ [(l.1, true)] →
         ∃ (t : Bl) (rest : List Ln), l :: r = t.flat ++ rest ∧ t.wf ∧ ((rest = [] ∧ os = []) ∨ ∃ c r, rest = c :: r ∧ closesK c.1 = true ∧ standP false os (kinds rest) = some []) := by
        intro hcc e2
        subst e2
        obtain ⟨q, rest2, e2, hq, hr2⟩ := ih r1 _ (by omega) hr
        rcases hr2 with ⟨_, hb⟩ | ⟨c2, r2, rfl, hcl2, hr2⟩
        ·simp at hb
        have hlen2 : q.flat.length + r2.length + 1 ≤ r1.length := by
         have := congrArg List.length e2
         simp at this; omega
        simp only [kinds, List.map_cons, standP] at hr2
        cases hs2 : stepO false (os ++ [(l.1, true)]) c2.1 with
        | none => rw [hs2] at hr2; cases hr2
        | some os3 =>
         rw [hs2] at hr2
         rcases stepO_close hs2 hcl2 with ⟨_, _, hb, _⟩ | ⟨_, _, hb, _⟩ | ⟨h11, _, rfl⟩
         ·cases hb
         ·cases hb
         obtain ⟨t3, rest3, e3, h3, hr3⟩ := ih r2 _ (by omega) hr2
         refine ⟨.two l p c q c2 t3, rest3, ?_, ⟨hcc, h11, hp, hq, h3⟩, hr3⟩
         rw [e, e2, e3]; simp [Bl.flat]
       rcases stepO_close hs1 hcl with ⟨h7, hch, _, e2⟩ | ⟨h10, h9, _, e2⟩ | ⟨h11, h9, e2⟩
       ·exact key (.inl ⟨hch, h7⟩) e2
       ·exact key (.inr ⟨h9, h10⟩) e2
       ·subst e2
        obtain ⟨t3, rest3, e3, h3, hr3⟩ := ih r1 _ (by omega) hr
        refine ⟨.one l p c t3, rest3, ?_, ⟨ho, h9.resolve_right (by simp), h11, hp, h3⟩, hr3⟩
        rw [e, e3]; simp [Bl.flat]
theorem tree_all (ls : List Ln) (h0 : ls ≠ []) (h : standP true [] (kinds ls) = some []) : ∃ (l : Ln) (t : Bl), ls = l :: t.flat ∧ l.1 = 1 ∧ t.wf := by
 match ls, h0, h with
 | l :: r, _, h =>
  simp only [kinds, List.map_cons, standP] at h
  cases hs : stepO true [] l.1 with
  | none => rw [hs] at h; cases h
  | some os1 =>
   rw [hs] at h
   have h1 : (l.1 == 1) = true := by
    unfold stepO at hs
    split at hs
    ·rename_i hh
     have hg := hh.1
     rw [standL] at hg
     split at hg
     ·simp at hg
     ·rename_i hx; simpa using hx
    ·cases hs
   have e1 : l.1 = 1 := by simpa using h1
   have : os1 = [] := (stepO_plain hs (by rw [e1]; rfl) (by rw [e1]; rfl)).1
   subst this
   obtain ⟨t, rest, e, hw, hr⟩ := tree_of r.length r [] (Nat.le_refl _) h
   rcases hr with ⟨rfl, _⟩ | ⟨c, r1, rfl, hcl, hr⟩
   ·exact ⟨l, t, by rw [e]; simp, e1, hw⟩
   ·exfalso
    simp only [kinds, List.map_cons, standP] at hr
    cases hs2 : stepO false [] c.1 with
    | none => rw [hs2] at hr; cases hr
    | some os2 => exact stepO_close_nil hcl hs2
end
section
def addU (ks : List ByteArray) (s : ByteArray) : List ByteArray := if hasB ks s = true then ks else ks ++ [s]
def uniU (ks : List ByteArray) (ss : List ByteArray) : List ByteArray := ss.foldl addU ks
def comm (a b : List ByteArray) : List ByteArray := a.filter fun s => hasB b s
def knownB (ks : List ByteArray) (s : ByteArray) : Bool := numB s || hasB ks s
def meddB (a b : Ln) : Bool := !(a.2.to.toList.isEmpty) && ((a.2.to.toList == b.2.to.toList) || hasB b.2.args a.2.to)
def sigB (a b : Ln) : Bool := (a.1 == 5) && ((b.1 == 5) && (a.2.name.toList == b.2.name.toList))
def pairB (a b : Ln) : Bool := meddB a b || (meddB b a || sigB a b)
def clashB (xs ys : List Ln) : Bool := xs.any fun a => ys.any fun b => pairB a b
def gainU (ks : List ByteArray) (to : ByteArray) : List ByteArray := if to.toList.isEmpty = true then ks else addU ks to
def lineOk (ks : List ByteArray) (both live : Bool) (l : Ln) : Bool := live && (allB (knownB ks) l.2.args && !(leavesK l.1 && both))
def comeT : List ByteArray → Bool → Bool → Bl → Option (List ByteArray × Bool)
 | ks, _, live, .nil => some (ks, live)
 | ks, both, live, .plain l r => if lineOk ks both live l = true then comeT (gainU ks l.2.to) both (!leavesK l.1) r else none
 | ks, both, live, .one l p _ r =>
  if lineOk ks both live l = true then
   match comeT ks both true p with
   | none => none
   | some _ => comeT ks both true r
  else none
 | ks, both, live, .two l p _ q _ r =>
  if lineOk ks both live l = true then
   match comeT ks (both || (l.1 == 9)) true p with
   | none => none
   | some (k1, c1) =>
    match comeT ks (both || (l.1 == 9)) true q with
    | none => none
    | some (k2, c2) =>
     if l.1 = 9 then (if clashB p.flat q.flat = true then none else comeT (uniU k1 k2) both true r)
     else if c1 = false then comeT k2 both c2 r
     else if c2 = false then comeT k1 both true r
     else comeT (comm k1 k2) both true r
  else none
theorem hasB_append (a b : List ByteArray) (s : ByteArray) : hasB (a ++ b) s = (hasB a s || hasB b s) := by simp [hasB]
theorem hasB_nil (s : ByteArray) : hasB [] s = false := rfl
theorem addU_ext (ks : List ByteArray) (s : ByteArray) : ∃ g, addU ks s = ks ++ g ∧ (∀ x ∈ g, hasB ks x = false) ∧ g.Nodup := by
  unfold addU
  split
  · exact ⟨[], by simp, by simp, List.nodup_nil⟩
  · rename_i h
    exact ⟨[s], rfl, by intro x hx; have : x = s := by simpa using hx
                        subst this; simpa using h, by simp⟩
def News (ks gs : List ByteArray) : Prop := (∀ x ∈ gs, hasB ks x = false) ∧ gs.Nodup
theorem News.append {ks a b : List ByteArray} (ha : News ks a) (hb : News (ks ++ a) b) : News ks (a ++ b) := by
 refine ⟨fun x hx => ?_, ?_⟩
 ·rcases List.mem_append.1 hx with h | h
  ·exact ha.1 x h
  ·have := hb.1 x h
   rw [hasB_append] at this
   exact (Bool.or_eq_false_iff.1 this).1
 ·rw [List.nodup_append]
  refine ⟨ha.2, hb.2, fun x hx y hy e => ?_⟩
  subst e
  have := hb.1 x hy
  rw [hasB_append, (hasB_iff a x).2 hx] at this
  simp at this
theorem News.nil (ks : List ByteArray) : News ks [] := ⟨by simp, List.nodup_nil⟩
theorem addU_news (ks : List ByteArray) (s : ByteArray) : ∃ g, addU ks s = ks ++ g ∧ News ks g := by
 obtain ⟨g, h1, h2, h3⟩ := addU_ext ks s
 exact ⟨g, h1, h2, h3⟩
theorem uniU_news : ∀ (ss ks : List ByteArray), ∃ g, uniU ks ss = ks ++ g ∧ News ks g
 | [], ks => ⟨[], by simp [uniU], News.nil _⟩
 | s :: r, ks => by
  obtain ⟨g, h, hn⟩ := addU_news ks s
  obtain ⟨g', h', hn'⟩ := uniU_news r (addU ks s)
  rw [h] at hn' h'
  refine ⟨g ++ g', ?_, hn.append hn'⟩
  show uniU (addU ks s) r = _
  rw [h, h', List.append_assoc]
theorem uniU_fresh : ∀ (g ks : List ByteArray), News ks g → uniU ks g = ks ++ g
 | [], ks, _ => by simp [uniU]
 | s :: r, ks, h => by
  have h1 : hasB ks s = false := h.1 s (by simp)
  have e : addU ks s = ks ++ [s] := by rw [addU, h1]; rfl
  show uniU (addU ks s) r = _
  rw [e, uniU_fresh r (ks ++ [s]) ⟨fun x hx => ?_, (List.nodup_cons.1 h.2).2⟩, List.append_assoc]; rfl
  rw [hasB_append, h.1 x (by simp [hx]), Bool.false_or]
  have : x ≠ s := fun e => (List.nodup_cons.1 h.2).1 (e ▸ hx)
  simp [hasB]; exact fun e => this e.symm
theorem uniU_known : ∀ (ss ks : List ByteArray), (∀ x ∈ ss, hasB ks x = true) → uniU ks ss = ks
 | [], _, _ => rfl
 | s :: r, ks, h => by
  show uniU (addU ks s) r = ks
  rw [addU, if_pos (h s (by simp))]
  exact uniU_known r ks fun x hx => h x (by simp [hx])
theorem uniU_append (a b ks : List ByteArray) : uniU ks (a ++ b) = uniU (uniU ks a) b := by simp [uniU]
theorem comm_self (ks g1 g2 : List ByteArray) (h1 : News ks g1) : comm (ks ++ g1) (ks ++ g2) = ks ++ comm g1 g2 := by
 rw [comm, List.filter_append]
 congr 1
 ·rw [List.filter_eq_self]
  intro x hx
  rw [hasB_append, (hasB_iff ks x).2 hx]; rfl
 ·apply List.filter_congr
  intro x hx
  rw [hasB_append, h1.1 x hx, Bool.false_or]
theorem comm_known (ks g : List ByteArray) (h : News ks g) : comm (ks ++ g) ks = ks := by
 have := comm_self ks g [] h
 rw [List.append_nil] at this
 rw [this]
 have : comm g [] = [] := by simp [comm, hasB_nil]
 rw [this, List.append_nil]
theorem comm_news {ks g1 g2 : List ByteArray} (h : News ks g1) : News ks (comm g1 g2) :=
 ⟨fun x hx => h.1 x (List.mem_filter.1 hx).1, h.2.sublist List.filter_sublist⟩
theorem gainU_news (ks : List ByteArray) (to : ByteArray) : ∃ g, gainU ks to = ks ++ g ∧ News ks g := by
 unfold gainU
 split
 ·exact ⟨[], by simp, News.nil _⟩
 ·exact addU_news ks to
theorem uniU_two (ks g1 g2 : List ByteArray) (h1 : News ks g1) : uniU (ks ++ g1) (ks ++ g2) = uniU ks (g1 ++ g2) := by
 rw [uniU_append (a := ks), uniU_known ks (ks ++ g1), uniU_append, uniU_fresh g1 ks h1]
 intro x hx
 rw [hasB_append, (hasB_iff ks x).2 hx]; rfl
theorem comeT_news : ∀ (t : Bl) (ks : List ByteArray) (both live : Bool) (ks' : List ByteArray) (live' : Bool), comeT ks both live t = some (ks', live') → ∃ g, ks' = ks ++ g ∧ News ks g
 | .nil, ks, both, live, ks', live', h => by
  simp only [comeT, Option.some.injEq, Prod.mk.injEq] at h
  exact ⟨[], by simp [h.1], News.nil _⟩
 | .plain l r, ks, both, live, ks', live', h => by
  simp only [comeT] at h
  split at h
  ·obtain ⟨g, e, hg⟩ := gainU_news ks l.2.to
   rw [e] at h
   obtain ⟨g', e', hg'⟩ := comeT_news r _ _ _ _ _ h
   exact ⟨g ++ g', by rw [e', List.append_assoc], hg.append hg'⟩
  ·cases h
 | .one l p e r, ks, both, live, ks', live', h => by
  simp only [comeT] at h
  split at h
  ·split at h
   ·cases h
   ·exact comeT_news r _ _ _ _ _ h
  ·cases h
 | .two l p m q e r, ks, both, live, ks', live', h => by
  simp only [comeT] at h
  split at h
  ·split at h
   ·cases h
   ·rename_i k1 c1 h1
    split at h
    ·cases h
    ·rename_i k2 c2 h2
     obtain ⟨g1, e1, hg1⟩ := comeT_news p _ _ _ _ _ h1
     obtain ⟨g2, e2, hg2⟩ := comeT_news q _ _ _ _ _ h2
     have fin : ∀ (kk gg : List ByteArray) (b : Bool), kk = ks ++ gg → News ks gg → comeT kk both b r = some (ks', live') → ∃ g, ks' = ks ++ g ∧ News ks g := by
      intro kk gg b ek hk hh
      subst ek
      obtain ⟨g', e', hg'⟩ := comeT_news r _ _ _ _ _ hh
      exact ⟨gg ++ g', by rw [e', List.append_assoc], hk.append hg'⟩
     split at h
     ·split at h
      ·cases h
      ·obtain ⟨g, eg, hg⟩ := uniU_news (g1 ++ g2) ks
       exact fin _ g true (by rw [e1, e2, uniU_two ks g1 g2 hg1, eg]) hg h
     ·split at h
      ·exact fin _ g2 c2 e2 hg2 h
      ·split at h
       ·exact fin _ g1 true e1 hg1 h
       ·exact fin _ (comm g1 g2) true (by rw [e1, e2, comm_self ks g1 g2 hg1]) (comm_news hg1) h
  ·cases h
end
section
structure Stp where
 code : Int
 to : ByteArray
 name : ByteArray
 args : List ByteArray
 undo : ByteArray
 a : Int
 b : Int
end
end Go.Proofs.YtlbjjbolbopfmaaGreatDoor
