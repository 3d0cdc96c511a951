import Derived.Test.YtlbjjbolbopfmaaGreatDoorI07
import Derived.Deep.RegionHeld3
import Derived.Deep.AppendLies
import Derived.Test.YtlbjjbolbopfmaaGreatDoorI06
import Derived.Test.YtlbjjbolbopfmaaGreatDoorI00
namespace Go.Proofs.YtlbjjbolbopfmaaGreatDoor
set_option maxHeartbeats 4000000
set_option maxRecDepth 1000000
set_option linter.unusedVariables false
section
open Go.RowKit
theorem z_lw (a1 a2 : Option Addr) (c e : Nat) (xs ys : List ByteArray) (A1 B1 A2 B2 : Nat) (w : World) (hx : xs.length ≤ 9223372036854775807) (hy : ys.length ≤ 9223372036854775807) (h1 : StrsAt A1 B1 w a1 xs) (h2 : StrsAt A2 B2 w a2 ys) :
  Calls Tryz.prog 161 #[.slice a1 xs.length c, .slice a2 ys.length e] w fun e w' => e = .returned (.bool (decide (xs = ys))) ∧ ∃ q, w' = w.drewN q := by
 by_cases hl : xs.length = ys.length
 ·by_cases h0 : 0 < xs.length
  ·obtain ⟨b1, o1, rfl, _, _⟩ := h1 0 h0
   obtain ⟨b2, o2, rfl, _, _⟩ := h2 0 (by omega)
   refine (Tryz.slices_Equal_string b1 o1 xs.length c b2 o2 ys.length e xs ys w (Nat.le_refl _) (Nat.le_refl _) hx hy ?_ ?_).mono ?_
   ·intro j hj
    obtain ⟨b', o', e', _, hc⟩ := h1 j hj
    cases e'; exact hc
   ·intro j hj
    obtain ⟨b', o', e', _, hc⟩ := h2 j hj
    cases e'; exact hc
   ·rintro e w' ⟨rfl, q, rfl⟩
    exact ⟨by rw [List.take_length, List.take_length], q, rfl⟩
  ·have e1 : xs = [] := List.length_eq_zero_iff.1 (by omega)
   have e2 : ys = [] := List.length_eq_zero_iff.1 (by omega)
   subst e1 e2
   refine (Tryz.slices_Equal_string_empty a1 a2 c 0 e w (by omega)).mono ?_
   rintro e w' ⟨rfl, rfl⟩
   exact ⟨by simp, 0, rfl⟩
 ·refine (Tryz.slices_Equal_string_lens a1 a2 xs.length c ys.length e w hl).mono ?_
  rintro e w' ⟨rfl, rfl⟩
  refine ⟨?_, 0, rfl⟩
  have : ¬ xs = ys := fun h => hl (by rw [h])
  simp [this]
def z_aZ (k k' : Int) (d d' : Bd) : Bool := (k == k') && (d.to.toList == d'.to.toList) && (d.name.toList == d'.name.toList) && (d.undo.toList == d'.undo.toList) && decide (d.args = d'.args)
theorem z_em (k k' : Int) (d d' : Bd) (a1 a2 : Option Addr) (c c' : Nat) (A1 A2 : Nat) (w : World) (hx : d.args.length ≤ 9223372036854775807) (hy : d'.args.length ≤ 9223372036854775807) (h1 : StrsAt A1 w.heap.size w a1 d.args) (h2 : StrsAt A2 w.heap.size w a2 d'.args) :
  Calls Tryz.prog 125 #[.agg #[.int .i64 k, .string d.to, .string d.name, .slice a1 d.args.length c, .string d.undo], .agg #[.int .i64 k', .string d'.to, .string d'.name, .slice a2 d'.args.length c', .string d'.undo]] w fun e w' => e = .returned (.bool (z_aZ k k' d d')) ∧ Below w.heap.size w w' := by
 have H1 : Hid (StrsAt A1 w.heap.size w a1 d.args) := h1
 have H2 : Hid (StrsAt A2 w.heap.size w a2 d'.args) := h2
 clear h1 h2
 have HB : Hid (∀ L L' : Obj, Below w.heap.size w ((w.alloc L).alloc L')) := fun L L' => ((Below.refl _ _).alloc (Nat.le_refl _) _).alloc (by simp) _
 cases q1 : (k == k') with
 | false =>
  go_enter Tryz.func125, Tryz.ntmps125
  go_wp2
  go_ret
  exact ⟨by simp only [z_aZ, q1] <;> rfl, HB.out _ _⟩
 | true =>
  cases q2 : (d.to.toList == d'.to.toList) with
  | false =>
   go_enter Tryz.func125, Tryz.ntmps125
   go_wp2
   go_ret
   exact ⟨by simp only [z_aZ, q1, q2] <;> rfl, HB.out _ _⟩
  | true =>
   cases q3 : (d.name.toList == d'.name.toList) with
   | false =>
    go_enter Tryz.func125, Tryz.ntmps125
    go_wp2
    go_ret
    exact ⟨by simp only [z_aZ, q1, q2, q3] <;> rfl, HB.out _ _⟩
   | true =>
    cases q4 : (d.undo.toList == d'.undo.toList) with
    | false =>
     go_enter Tryz.func125, Tryz.ntmps125
     go_wp2
     go_ret
     exact ⟨by simp only [z_aZ, q1, q2, q3, q4] <;> rfl, HB.out _ _⟩
    | true =>
     go_enter Tryz.func125, Tryz.ntmps125
     go_wp2_with fail
     refine (z_lw a1 a2 c c' d.args d'.args A1 w.heap.size A2 w.heap.size _ hx hy (H1.out.below (HB.out _ _)) (H2.out.below (HB.out _ _))).mono ?_
     rintro e w1 ⟨rfl, q, rfl⟩
     cases q5 : decide (d.args = d'.args) with
     | false =>
      go_wp2
      go_ret
      exact ⟨by simp only [z_aZ, q1, q2, q3, q4, q5] <;> rfl, z_aa (HB.out _ _) _⟩
     | true =>
      go_wp2
      go_ret
      exact ⟨by simp only [z_aZ, q1, q2, q3, q4, q5] <;> rfl, z_aa (HB.out _ _) _⟩
end
section
open Go.RowKit
set_option linter.unusedSimpArgs false
theorem writeLine_branch (k : Int) (b off : Nat) (cap : Nat) (to name undo p q : ByteArray) (w : World) (hk : branchK k = true) (hcap : 2 ≤ cap) (hs : ∀ s ∈ outW k ⟨to, name, [p, q], undo⟩, s.size ≤ 1048576)
    (hi : StrsAt 0 w.heap.size w (some ⟨b, off, none⟩) [p, q]) :
    Calls Tryz.prog 124 #[.agg #[.int .i64 k, .string to, .string name, .slice (some ⟨b, off, none⟩) 2 cap, .string undo]] w fun e w' => e = .returned (.string (z_ca (outW k ⟨to, name, [p, q], undo⟩))) ∧ Below w.heap.size w w' := by
  obtain ⟨i0, hi0, hz0, hz1, hz2⟩ := info_parts Tryz.infoStr
  have HS : Hid (∀ s ∈ outW k ⟨to, name, [p, q], undo⟩, s.size ≤ 1048576) := hs
  have HK : Hid (branchK k = true) := hk
  have HN : Hid (outW k ⟨to, name, [p, q], undo⟩ = [z_a2 k] ++ [p, name, q]) := by simp [Hid, outW, hk, eS]
  obtain ⟨_, _, e0, hB, hc0⟩ := hi.at 0 (by simp)
  cases e0
  obtain ⟨_, _, e1, _, hc1⟩ := hi.at 1 (by simp)
  cases e1
  obtain ⟨_, hBw⟩ := hB
  have c0 : w.cell? ⟨b, off, none⟩ = some (.string p) := hc0
  have c1 : w.cell? ⟨b, off + 1, none⟩ = some (.string q) := hc1
  clear hi hs hk hc0 hc1
  go_enter Tryz.func124, Tryz.ntmps124
  go_wp2_with (go_at_call 159; refine (z_df _ _).mono ?_; rintro e w' ⟨rfl, rfl⟩)
  refine (z_cx _ _ _ _ _ _).mono ?_
  rintro e w2 ⟨rfl, hb2⟩
  rw [HK.out]
  have hb2' : Below (w.heap.size + 1) (w.alloc (.cells #[.int .i64 k, .string to, .string name, .slice (some ⟨b, off, none⟩) 2 cap, .string undo] 49)) w2 := ((Below.refl _ _).alloc (by simp) _).trans (hb2.mono (by simp))
  obtain ⟨⟨x0, x1, x2, x3, x4⟩, hf, hlt⟩ := box5 (hb2'.mono (by simp))
  have hw2 : w.heap.size + 2 ≤ w2.heap.size := by have := hb2.size; simpa using this
  have hbw : Below w.heap.size w w2 := ((Below.refl _ _).alloc (Nat.le_refl _) _).trans (hb2'.mono (by simp))
  have d0 := (hbw.cell (p := ⟨b, off, none⟩) hBw).trans c0
  have d1 := (hbw.cell (p := ⟨b, off + 1, none⟩) hBw).trans c1
  have HB2 : Hid (Below w.heap.size w w2) := hbw
  have HO2 : Hid (w2.ownsRow (w.heap.size + 1) 9 1 (.slice (some ⟨w.heap.size + 1, 0, none⟩) 1 1) [z_a2 k].length (strCells [z_a2 k])) := z_gB (z_mZ hb2) (Nat.le_refl _)
  clear hb2 hb2' hbw c0 c1 x0 x1 x4
  have hbl : b < w2.heap.size := by omega
  have hne : b ≠ w.heap.size + 1 := by omega
  go_wp2_with fail
  go_region_held3 (fun wx => wx.cell? ⟨w.heap.size, 2, none⟩ = some (.string name) ∧ wx.cell? ⟨w.heap.size, 3, none⟩ = some (.slice (some ⟨b, off, none⟩) 2 cap) ∧ wx.cell? ⟨b, off, none⟩ = some (.string p) ∧ wx.cell? ⟨b, off + 1, none⟩ = some (.string q))
    (first
      | (go_keep; done)
      | (go_split_ands
         refine ⟨?_, ?_, ?_, ?_⟩ <;> (rw [hgrow.cell_far _ (by simp; omega) (by first | (simp [Value.ownBlock]; done) | (simp [Value.ownBlock]; omega))]; assumption)))
    (first
      | (refine step_append_lies _ (by rfl) _ _ _ (by rfl) (w.heap.size + 1) 9 i0 _ 1 16 Tryz.underlying45 hi0 hz0 hz1 hz2 rfl (by omega) (.slice (some ⟨w.heap.size + 1, 0, none⟩) 1 1) 1 _ (by rfl) ((HO2.out.alloc _).drew) ⟨w2.heap.size, 0, none⟩ 3 3 [.string p, .string name, .string q] (by rfl) (by rfl) (World.news_of_block (cs := #[.string p, .string name, .string q]) (t := 9) (fr := (0, 0)) (heap_alloc_new w2 _)) (by simp [Value.oneCell']) (by omega) (by unfold maxLen; omega) (by omega) (by simp; omega) (w2.heap.size + 1) (by simp) ?_; intro gg c3 w3 hown3 hgrow hat hlt3))
  all_goals
    have hb3 : Below w.heap.size w w3 := HB2.out.trans ((z_b7 HO2.out (Below.refl _ _) (((Below.refl _ _).alloc (Nat.le_refl _) _).drew) (by omega) hgrow rfl).mono (by omega))
    have hown5 : w3.ownsRow (w.heap.size + 1) 9 1 (.slice (some ⟨gg, 0, none⟩) (outW k ⟨to, name, [p, q], undo⟩).length c3) (outW k ⟨to, name, [p, q], undo⟩).length (strCells (outW k ⟨to, name, [p, q], undo⟩)) := by rw [HN.out]; exact hown3
    have hc5 := z_bP hown5
    have HC5 := z_bq hown5
    have h4 : (outW k ⟨to, name, [p, q], undo⟩).length = 4 := by rw [HN.out]; rfl
    have HB3 : Hid (Below w.heap.size w w3) := hb3
    clear hown3 hgrow hat hown5 hb3
    go_wp2_with fail
    rw [HN.out] at HC5 hc5
    have HJ : (Lib.join (([z_a2 k] ++ [p, name, q]).map (·.data.toList)) [32]).length ≤ 140737488355328 := by
      have h1 := z_gU 1048576 _ HS.out
      rw [h4] at h1
      rw [← HN.out]
      omega
    refine (Tryz.strings_Join gg 0 c3 ([z_a2 k] ++ [p, name, q]) ⟨#[32]⟩ w3 HC5 hlt3 (by simp) hc5 HJ).mono ?_
    rintro e w6 ⟨rfl, hb6⟩
    have HB6 : Below w.heap.size w w6 := HB3.out.trans (hb6.mono HB3.out.size)
    clear hb6
    go_wp2
    go_ret
    exact ⟨by rw [HN.out]; rfl, HB6⟩
theorem z_d0 (k : Int) (ao : Option Addr) (cap : Nat) (d : Bd) (w : World) (hk : branchK k = true → d.args.length = 2) (hcap : d.args.length ≤ cap) (hl : d.args.length ≤ 1048576) (hs : ∀ s ∈ outW k d, s.size ≤ 1048576)
  (hi : StrsAt 0 w.heap.size w ao d.args) :
  Calls Tryz.prog 124 #[.agg #[.int .i64 k, .string d.to, .string d.name, .slice ao d.args.length cap, .string d.undo]] w fun e w' => e = .returned (.string (z_ca (outW k d))) ∧ Below w.heap.size w w' := by
 cases hb : branchK k with
 | false => exact z_fB k ao cap d w hb hcap hl hs hi
 | true =>
  obtain ⟨to, name, args, undo⟩ := d
  have h2 := hk hb
  match args, h2, hcap, hs, hi with
  | [p, q], _, hcap, hs, hi =>
   obtain ⟨b, off, rfl, _, _⟩ := hi 0 (by simp)
   exact writeLine_branch k b off cap to name undo p q w hb hcap hs hi
end
section
theorem z_kh (s : ByteArray) : ∀ (n pos : Nat) (st : Int), 0 ≤ st → cutSp s n pos st ≠ []
 | 0, _, st, h => by rw [cutSp, if_pos h]; simp
 | n + 1, pos, st, h => by
  by_cases hb : s.get! pos = 32
  ·rw [cutSp, if_pos hb, if_pos h]; simp
  ·rw [cutSp, if_neg hb, if_neg (by omega)]; exact z_kh s n (pos + 1) st h
theorem z_lP (s : ByteArray) (h0 : 0 < s.size) (hb : s.get! 0 ≠ 32) : wordsW s ≠ [] := by
 obtain ⟨n, hn⟩ : ∃ n, s.size = n + 1 := ⟨s.size - 1, by omega⟩
 rw [wordsW, hn, cutSp, if_neg hb, if_pos (by omega)]
 exact z_kh s n 1 0 (by omega)
theorem z_dj (s : ByteArray) : ∀ (n pos : Nat) (st : Int), ∀ x ∈ cutSp s n pos st, x.size ≤ s.size
 | 0, pos, st, x, hx => by
  rw [cutSp] at hx
  split at hx
  ·have : x = s.extract st.toNat s.size := by simpa using hx
   subst this; simp
  ·simp at hx
 | n + 1, pos, st, x, hx => by
  rw [cutSp] at hx
  split at hx
  ·split at hx
   ·rcases List.mem_cons.1 hx with rfl | h
    ·simp; omega
    ·exact z_dj s n _ _ x h
   ·exact z_dj s n _ _ x hx
  ·exact z_dj s n _ _ x hx
theorem z_da (s : ByteArray) : ∀ (n pos : Nat) (st : Int), (cutSp s n pos st).length ≤ n + (if 0 ≤ st then 1 else 0)
 | 0, pos, st => by rw [cutSp]; split <;> simp
 | n + 1, pos, st => by
  rw [cutSp]
  split
  ·split
   ·have := z_da s n (pos + 1) (-1); simp at this ⊢; omega
   ·have := z_da s n (pos + 1) (-1); simp at this ⊢; omega
  ·by_cases h : st < 0
   ·have := z_da s n (pos + 1) (pos : Int)
    rw [if_pos (show (0 : Int) ≤ (pos : Int) by omega)] at this
    rw [if_pos h, if_neg (by omega)]; omega
   ·have := z_da s n (pos + 1) st
    rw [if_pos (show (0 : Int) ≤ st by omega)] at this
    rw [if_neg h, if_pos (by omega)]; omega
theorem z_f (s : ByteArray) : ∀ x ∈ wordsW s, x.size ≤ s.size := z_dj s _ _ _
theorem z_f7 (s : ByteArray) : (wordsW s).length ≤ s.size := by
 have := z_da s s.size 0 (-1)
 rw [if_neg (by omega)] at this
 exact this
def z_b (k : Int) (d : Bd) : List ByteArray := wordsW (z_ca (outW k d))
def z_br (k : Int) (d : Bd) : Bool :=
  decide (1 ≤ k ∧ k ≤ 15) && (!branchK k || decide (d.args.length = 2)) &&
  (match z_b k d with
   | [] => false
   | a :: r => match z_af (z_aO a) r with
     | none => false
     | some d' => z_aZ k (z_aO a) d d')
theorem z_lM (k : Int) (d : Bd) : ∃ r, outW k d = z_a2 k :: r := by
 rw [outW]; split <;> exact ⟨_, rfl⟩
theorem z_ko (M : Nat) (ws : List ByteArray) (h : ∀ s ∈ ws, s.size ≤ M) : (z_ca ws).size ≤ ws.length * (M + 1) := by
 have := z_gU M ws h
 show (Lib.join _ _).toArray.size ≤ _
 simpa using this
theorem z_mz (k : Int) (d : Bd) : (outW k d).length ≤ d.args.length + 6 := by
 rw [outW]
 have h1 := z_gN [d.to, d.name]
 have h2 := z_ha d.undo
 simp at h1
 split
 ·simp
 ·simp only [List.length_append, List.length_cons]
  split <;> simp <;> omega
end
section
open Go.RowKit
theorem z_jJ (k : Int) (h1 : 1 ≤ k) (h2 : k ≤ 15) : ∃ b r, (z_a2 k).data.toList = b :: r ∧ b ≠ 32 := by
 have hk : k = 1 ∨ k = 2 ∨ k = 3 ∨ k = 4 ∨ k = 5 ∨ k = 6 ∨ k = 7 ∨ k = 8 ∨ k = 9 ∨ k = 10 ∨ k = 11 ∨ k = 12 ∨ k = 13 ∨ k = 14 ∨ k = 15 := by omega
 rcases hk with rfl | rfl | rfl | rfl | rfl | rfl | rfl | rfl | rfl | rfl | rfl | rfl | rfl | rfl | rfl <;> exact ⟨_, _, rfl, by decide⟩
theorem z_iV (k : Int) (d : Bd) (h1 : 1 ≤ k) (h2 : k ≤ 15) : z_b k d ≠ [] := by
 obtain ⟨r, hr⟩ := z_lM k d
 obtain ⟨b, t, hb, hne⟩ := z_jJ k h1 h2
 have e : (z_ca (outW k d)).data.toList = b :: (t ++ Lib.joinTail [32] (r.map (·.data.toList))) := by
  show (Lib.join _ _).toArray.toList = _
  rw [hr, List.map_cons, Lib.join_cons, hb]; rfl
 apply z_lP
 ·have : (z_ca (outW k d)).data.toList.length = (z_ca (outW k d)).size := by simp
  rw [e] at this; simp at this; omega
 ·have h0 : 0 < (z_ca (outW k d)).size := by
   have : (z_ca (outW k d)).data.toList.length = (z_ca (outW k d)).size := by simp
   rw [e] at this; simp at this; omega
  rw [get_at _ 0 h0]
  have e2 : (z_ca (outW k d)).data.toList[0]? = some b := by rw [e]; rfl
  have e3 : (z_ca (outW k d)).data.toList[0]? = some ((z_ca (outW k d))[0]'h0) := by
   rw [List.getElem?_eq_getElem (by simpa using h0)]; rfl
  rw [e3] at e2
  rw [Option.some.inj e2]; exact hne
theorem z_mg (k : Int) (d : Bd) (M : Nat) (hM : 8 ≤ M) (h1 : d.to.size ≤ M) (h2 : d.name.size ≤ M) (h3 : d.undo.size ≤ M) (h4 : ∀ s ∈ d.args, s.size ≤ M) : ∀ s ∈ outW k d, s.size ≤ M := by
 have hk := z_cJ k
 have hget : ∀ i, (d.args.getD i eS).size ≤ M := by
  intro i
  by_cases hi : i < d.args.length
  ·rw [show d.args.getD i eS = d.args[i] by simp [List.getD, hi]]; exact h4 _ (List.getElem_mem hi)
  ·rw [show d.args.getD i eS = eS by simp [List.getD, List.getElem?_eq_none (Nat.le_of_not_lt hi)]]; exact Nat.zero_le _
 intro s hs
 rw [outW] at hs
 split at hs
 ·simp only [List.mem_cons, List.not_mem_nil, or_false] at hs
  rcases hs with rfl | rfl | rfl | rfl
  ·omega
  ·exact hget 0
  ·exact h2
  ·exact hget 1
 ·simp only [List.mem_append, List.mem_cons] at hs
  rcases hs with (((rfl | hs) | hs) | hs) | hs
  ·omega
  ·have := (List.mem_filter.1 hs).1
   simp only [List.mem_cons, List.not_mem_nil, or_false] at this
   rcases this with rfl | rfl
   ·exact h1
   ·exact h2
  ·split at hs
   ·have : s = forS := by simpa using hs
    subst this; exact Nat.le_trans (by decide) hM
   ·simp at hs
  ·exact h4 s hs
  ·rw [z_co] at hs
   split at hs
   ·simp at hs
   ·simp only [List.mem_cons, List.not_mem_nil, or_false] at hs
    rcases hs with rfl | rfl
    ·exact Nat.le_trans (by decide) hM
    ·exact h3
theorem z_hO {k : Int} {ws : List ByteArray} {d : Bd} (h : z_af k ws = some d) : d.args.length ≤ ws.length := by
 have hn : ∀ {x}, pNext ws = some x → x.args.length ≤ ws.length := by
  intro x hx
  rw [pNext.eq_def] at hx
  split at hx
  ·cases hx; exact Nat.le_refl _
  ·cases hx
 have h0 : ∀ {vs : List ByteArray} {u x}, vs.length ≤ ws.length → pDo0 vs u = some x → x.args.length ≤ ws.length := by
  intro vs u x hv hx
  rw [pDo0.eq_def] at hx
  split at hx
  ·split at hx
   ·cases hx; simp at hv ⊢; omega
   ·cases hx
  ·cases hx
 rw [z_af] at h
 split at h
 ·rw [pHead.eq_def] at h
  split at h
  ·cases h
  ·split at h
   ·cases h; simp
   ·cases h
 split at h
 ·rw [pLet.eq_def] at h
  split at h
  ·split at h
   ·cases h; simp
   ·cases h
  ·cases h
 split at h
 ·rw [pDo.eq_def] at h
  split at h
  ·split at h
   ·exact h0 (by simp) h
   ·cases h
  ·exact h0 (Nat.le_refl _) h
 split at h
 ·rw [pGet.eq_def] at h
  split at h
  ·split at h
   ·cases h; simp
   ·cases h
  ·split at h
   ·cases h; simp
   ·cases h
  ·cases h
 split at h
 ·rw [pTest.eq_def] at h
  split at h
  ·split at h
   ·cases h; simp
   ·cases h
  ·cases h
 split at h
 ·rw [pNothing.eq_def] at h
  split at h
  ·cases h; simp
  ·cases h
 split at h
 ·rw [pOperand.eq_def] at h
  split at h
  ·exact hn h
  ·cases h
 split at h
 ·rw [pPatch.eq_def] at h
  split at h
  ·split at h
   ·cases h; simp
   ·cases h
  ·cases h
 split at h
 ·exact hn h
 ·cases h
theorem z_iJ (k : Int) (ao : Option Addr) (cap : Nat) (d : Bd) (w : World) (hk1 : 1 ≤ k) (hk2 : k ≤ 15) (hbr : branchK k = true → d.args.length = 2) (hcap : d.args.length ≤ cap) (hl : d.args.length ≤ 1048576)
  (hs : ∀ s ∈ outW k d, s.size ≤ 1048576) (hi : StrsAt 0 w.heap.size w ao d.args) (he : Env w) :
  Calls Tryz.prog 93 #[.agg #[.int .i64 k, .string d.to, .string d.name, .slice ao d.args.length cap, .string d.undo]] w fun e w' => e = .returned (.bool (z_br k d)) ∧ Below w.heap.size w w' := by
 have HS : Hid (∀ s ∈ outW k d, s.size ≤ 1048576) := hs
 have HI : Hid (StrsAt 0 w.heap.size w ao d.args) := hi
 have HE : Hid (Env w) := he
 have HBR : Hid (branchK k = true → d.args.length = 2) := hbr
 clear hs hi he hbr
 have hk3 : ¬ k < 1 := by omega
 go_enter Tryz.func93, Tryz.ntmps93
 obtain ⟨a, r, HW⟩ : ∃ a r, Hid (wordsW (z_ca (outW k d)) = a :: r) := by
  have h := z_iV k d hk1 hk2
  cases hx : z_b k d with
  | nil => exact absurd hx h
  | cons a r => exact ⟨a, r, hx⟩
 have HJ : Hid ((z_ca (outW k d)).size ≤ 1099518967814) := by
  have h1 := z_ko 1048576 _ HS.out
  have h2 := z_mz k d
  have h3 : (outW k d).length * (1048576 + 1) ≤ 1048582 * (1048576 + 1) := Nat.mul_le_mul_right _ (by omega)
  show _ ≤ _
  omega
 have HLr : Hid (r.length ≤ 1099518967814) := by
  have h1 := z_f7 (z_ca (outW k d))
  rw [HW.out] at h1
  have := HJ.out
  show _ ≤ _
  simp at h1; omega
 have HSz : Hid (∀ s ∈ a :: r, s.size ≤ 1099518967814) := fun s hs => by
  have h1 := z_f (z_ca (outW k d)) s (by rw [HW.out]; exact hs)
  have := HJ.out; omega
 go_wp2_with fail
 refine (z_cx _ _ _ _ _ _).mono ?_
 rintro e w2 ⟨rfl, hb2⟩
 obtain ⟨⟨x0, x1, x2, x3, x4⟩, hf, hlt⟩ := box5 hb2
 have HB2 : Hid (Below w.heap.size w w2) := ((Below.refl _ _).alloc (Nat.le_refl _) _).trans (hb2.mono (by simp))
 clear hb2
 cases hb : branchK k with
 | false =>
  go_wp2_with fail
  refine (z_d0 k ao cap d w2 HBR.out hcap hl HS.out (HI.out.later HB2.out)).mono ?_
  rintro e w3 ⟨rfl, hb3⟩
  have HB3 : Hid (Below w2.heap.size w2 w3) := hb3
  clear hb3
  go_wp2_with fail
  have hsp := splitWords_any (z_ca (outW k d)) w3 (by have := HJ.out; omega)
  rw [HW.out] at hsp
  refine hsp.mono ?_
  clear hsp
  rintro e w4 ⟨v4, rfl, hb4, ao4, c4, rfl, hc4, hi4⟩
  have HB4 : Hid (Below w2.heap.size w2 w4) := HB3.out.trans (hb4.mono HB3.out.size)
  have HI4 : Hid (StrsAt 0 w4.heap.size w4 ao4 (a :: r)) := hi4.mono (Nat.zero_le _) (Nat.le_refl _)
  have hc4' : r.length + 1 ≤ c4 := hc4
  clear hb4 hi4 hc4
  simp only [List.length_cons]
  go_wp2_with fail
  refine (z_eo ao4 c4 a r w4 hc4' (by have := HLr.out; omega) (fun s h => by have := HSz.out s h; omega) HI4.out (HE.out.later (HB2.out.trans (HB4.out.mono HB2.out.size)))).mono ?_
  rintro e w5 ⟨v5, rfl, hb5, k', d', ⟨ao5, c5, rfl, hc5, hi5⟩, hd⟩
  have hb5' : Below w2.heap.size w2 w5 := HB4.out.trans (hb5.mono HB4.out.size)
  have HB5 : Hid (Below w.heap.size w w5) := HB2.out.trans (hb5'.mono HB2.out.size)
  have y0 := (hb5'.cell (p := ⟨w.heap.size, 0, none⟩) hlt).trans x0
  have y1 := (hb5'.cell (p := ⟨w.heap.size, 1, none⟩) hlt).trans x1
  have y2 := (hb5'.cell (p := ⟨w.heap.size, 2, none⟩) hlt).trans x2
  have y3 := (hb5'.cell (p := ⟨w.heap.size, 3, none⟩) hlt).trans x3
  have y4 := (hb5'.cell (p := ⟨w.heap.size, 4, none⟩) hlt).trans x4
  have hlt5 : w.heap.size < w5.heap.size := by have := hb5'.size; omega
  have HI5 : Hid (StrsAt w4.heap.size w5.heap.size w5 ao5 d'.args) := hi5
  have HD : Hid (∀ d0, z_af (z_aO a) r = some d0 → d' = d0 ∧ k' = z_aO a) := hd
  have HNB : Hid (∀ L : Obj, Below w5.heap.size w5 (w5.alloc L)) := fun L => (Below.refl _ _).alloc (Nat.le_refl _) _
  clear hb5 hb5' hi5 hd x0 x1 x2 x3 x4
  cases ho : z_af (z_aO a) r with
  | none =>
   have HN : Hid (z_br k d = false) := by show _ = _; rw [z_br]; simp only [z_b, HW.out, ho, Bool.and_false]
   go_wp2
   go_ret
   exact ⟨by rw [HN.out]; rfl, HB5.out.trans ((HNB.out _).mono (by omega))⟩
  | some d0 =>
   obtain ⟨e1, e2⟩ := HD.out d0 ho
   subst e1 e2
   have HN : Hid (z_br k d = z_aZ k (z_aO a) d d') := by show _ = _; rw [z_br]; simp only [z_b, HW.out, ho]; rw [decide_eq_true (⟨hk1, hk2⟩ : 1 ≤ k ∧ k ≤ 15), hb]; rfl
   have hl5 : d'.args.length ≤ r.length := z_hO ho
   have hl6 := HLr.out
   clear ho HD
   go_wp2_with fail
   refine (z_em k (z_aO a) d d' ao ao5 cap c5 0 w4.heap.size _ (by omega) (by omega) ((HI.out.later HB5.out).later (HNB.out _)) (HI5.out.later (HNB.out _))).mono ?_
   rintro e w6 ⟨rfl, hb6⟩
   have HB6 : Hid (Below w.heap.size w w6) := HB5.out.trans ((HNB.out _).mono (by omega) |>.trans (hb6.mono (by simp; omega)))
   clear hb6
   cases hsm : z_aZ k (z_aO a) d d' with
   | false =>
    go_wp2
    go_ret
    exact ⟨by rw [HN.out, hsm]; rfl, HB6.out⟩
   | true =>
    go_wp2
    go_ret
    exact ⟨by rw [HN.out, hsm]; rfl, HB6.out⟩
 | true =>
  have H2 : Hid (d.args.length = 2) := HBR.out hb
  have hq2 : ((d.args.length : Int) == 2) = true := by have := H2.out; simp; omega
  go_wp2_with fail
  refine (z_d0 k ao cap d w2 HBR.out hcap hl HS.out (HI.out.later HB2.out)).mono ?_
  rintro e w3 ⟨rfl, hb3⟩
  have HB3 : Hid (Below w2.heap.size w2 w3) := hb3
  clear hb3
  go_wp2_with fail
  have hsp := splitWords_any (z_ca (outW k d)) w3 (by have := HJ.out; omega)
  rw [HW.out] at hsp
  refine hsp.mono ?_
  clear hsp
  rintro e w4 ⟨v4, rfl, hb4, ao4, c4, rfl, hc4, hi4⟩
  have HB4 : Hid (Below w2.heap.size w2 w4) := HB3.out.trans (hb4.mono HB3.out.size)
  have HI4 : Hid (StrsAt 0 w4.heap.size w4 ao4 (a :: r)) := hi4.mono (Nat.zero_le _) (Nat.le_refl _)
  have hc4' : r.length + 1 ≤ c4 := hc4
  clear hb4 hi4 hc4
  simp only [List.length_cons]
  go_wp2_with fail
  refine (z_eo ao4 c4 a r w4 hc4' (by have := HLr.out; omega) (fun s h => by have := HSz.out s h; omega) HI4.out (HE.out.later (HB2.out.trans (HB4.out.mono HB2.out.size)))).mono ?_
  rintro e w5 ⟨v5, rfl, hb5, k', d', ⟨ao5, c5, rfl, hc5, hi5⟩, hd⟩
  have hb5' : Below w2.heap.size w2 w5 := HB4.out.trans (hb5.mono HB4.out.size)
  have HB5 : Hid (Below w.heap.size w w5) := HB2.out.trans (hb5'.mono HB2.out.size)
  have y0 := (hb5'.cell (p := ⟨w.heap.size, 0, none⟩) hlt).trans x0
  have y1 := (hb5'.cell (p := ⟨w.heap.size, 1, none⟩) hlt).trans x1
  have y2 := (hb5'.cell (p := ⟨w.heap.size, 2, none⟩) hlt).trans x2
  have y3 := (hb5'.cell (p := ⟨w.heap.size, 3, none⟩) hlt).trans x3
  have y4 := (hb5'.cell (p := ⟨w.heap.size, 4, none⟩) hlt).trans x4
  have hlt5 : w.heap.size < w5.heap.size := by have := hb5'.size; omega
  have HI5 : Hid (StrsAt w4.heap.size w5.heap.size w5 ao5 d'.args) := hi5
  have HD : Hid (∀ d0, z_af (z_aO a) r = some d0 → d' = d0 ∧ k' = z_aO a) := hd
  have HNB : Hid (∀ L : Obj, Below w5.heap.size w5 (w5.alloc L)) := fun L => (Below.refl _ _).alloc (Nat.le_refl _) _
  clear hb5 hb5' hi5 hd x0 x1 x2 x3 x4
  cases ho : z_af (z_aO a) r with
  | none =>
   have HN : Hid (z_br k d = false) := by show _ = _; rw [z_br]; simp only [z_b, HW.out, ho, Bool.and_false]
   go_wp2
   go_ret
   exact ⟨by rw [HN.out]; rfl, HB5.out.trans ((HNB.out _).mono (by omega))⟩
  | some d0 =>
   obtain ⟨e1, e2⟩ := HD.out d0 ho
   subst e1 e2
   have HN : Hid (z_br k d = z_aZ k (z_aO a) d d') := by show _ = _; rw [z_br]; simp only [z_b, HW.out, ho]; rw [decide_eq_true (⟨hk1, hk2⟩ : 1 ≤ k ∧ k ≤ 15), decide_eq_true H2.out, hb]; rfl
   have hl5 : d'.args.length ≤ r.length := z_hO ho
   have hl6 := HLr.out
   clear ho HD
   go_wp2_with fail
   refine (z_em k (z_aO a) d d' ao ao5 cap c5 0 w4.heap.size _ (by omega) (by omega) ((HI.out.later HB5.out).later (HNB.out _)) (HI5.out.later (HNB.out _))).mono ?_
   rintro e w6 ⟨rfl, hb6⟩
   have HB6 : Hid (Below w.heap.size w w6) := HB5.out.trans ((HNB.out _).mono (by omega) |>.trans (hb6.mono (by simp; omega)))
   clear hb6
   cases hsm : z_aZ k (z_aO a) d d' with
   | false =>
    go_wp2
    go_ret
    exact ⟨by rw [HN.out, hsm]; rfl, HB6.out⟩
   | true =>
    go_wp2
    go_ret
    exact ⟨by rw [HN.out, hsm]; rfl, HB6.out⟩
end
section
open Go.RowKit
theorem z_dA (k : Int) (d : Bd) (h : ¬ (1 ≤ k ∧ k ≤ 15)) : z_br k d = false := by
 rw [z_br, decide_eq_false h]; rfl
theorem z_ej (k : Int) (d : Bd) (h : branchK k = true) (h2 : d.args.length ≠ 2) : z_br k d = false := by
 rw [z_br, h, decide_eq_false h2]; simp
theorem z_gv (k : Int) (ao : Option Addr) (cap : Nat) (d : Bd) (w : World) (hcap : d.args.length ≤ cap) (hl : d.args.length ≤ 1048576)
  (h1 : d.to.size ≤ 1048576) (h2 : d.name.size ≤ 1048576) (h3 : d.undo.size ≤ 1048576) (h4 : ∀ s ∈ d.args, s.size ≤ 1048576) (hi : StrsAt 0 w.heap.size w ao d.args) (he : Env w) :
  Calls Tryz.prog 93 #[.agg #[.int .i64 k, .string d.to, .string d.name, .slice ao d.args.length cap, .string d.undo]] w fun e w' => e = .returned (.bool (z_br k d)) ∧ Below w.heap.size w w' := by
 by_cases hk1 : 1 ≤ k
 ·by_cases hk2 : k ≤ 15
  ·by_cases hb : branchK k = true ∧ d.args.length ≠ 2
   ·obtain ⟨hb, hne⟩ := hb
    have HN : Hid (z_br k d = false) := z_ej k d hb hne
    have HB0 : Hid (branchK k = true) := hb
    have hq2 : ((d.args.length : Int) == 2) = false := by simp; omega
    have hk3 : ¬ k < 1 := by omega
    clear hi he h4 h1 h2 h3 hb hne
    go_enter Tryz.func93, Tryz.ntmps93
    go_wp2_with fail
    refine (z_cx _ _ _ _ _ _).mono ?_
    rintro e w2 ⟨rfl, hb2⟩
    rw [HB0.out]
    obtain ⟨⟨x0, x1, x2, x3, x4⟩, hf, hlt⟩ := box5 hb2
    have HB2 : Hid (Below w.heap.size w w2) := ((Below.refl _ _).alloc (Nat.le_refl _) _).trans (hb2.mono (by simp))
    clear hb2
    go_wp2
    go_ret
    exact ⟨by rw [HN.out]; rfl, HB2.out⟩
   ·exact z_iJ k ao cap d w hk1 hk2 (fun h => by have := hb; simp only [h, true_and, ne_eq, Classical.not_not] at this; exact this) hcap hl (z_mg k d 1048576 (by omega) h1 h2 h3 h4) hi he
  ·have HN : Hid (z_br k d = false) := z_dA k d (by omega)
   have hk3 : ¬ k < 1 := by omega
   have hk4 : 15 < k := by omega
   clear hi he
   go_enter Tryz.func93, Tryz.ntmps93
   go_wp2
   go_ret
   exact ⟨by rw [HN.out]; rfl, (Below.refl _ _).alloc (Nat.le_refl _) _⟩
 ·have HN : Hid (z_br k d = false) := z_dA k d (by omega)
  have hk3 : k < 1 := by omega
  clear hi he
  go_enter Tryz.func93, Tryz.ntmps93
  go_wp2
  go_ret
  exact ⟨by rw [HN.out]; rfl, (Below.refl _ _).alloc (Nat.le_refl _) _⟩
end
section
abbrev Opn := Int × Bool
abbrev Ln := Int × Bd
def z_aR (os : List Opn) (k : Int) (first : Bool) : List Opn × Bool :=
 if (k == 1) != first then (os, false)
 else if z_am k then (os ++ [(k, false)], true)
 else if !z_ae k then (os, true)
 else match os.getLast? with
  | none => (os, false)
  | some top =>
   if k = 7 then (os.dropLast ++ [(top.1, true)], z_aE top.1 && !top.2)
   else if k = 10 then (os.dropLast ++ [(top.1, true)], (top.1 == 9) && !top.2)
   else (os.dropLast, (top.1 != 9) || top.2)
def z_bo (first : Bool) (os : List Opn) (k : Int) : Option (List Opn) :=
 if (z_aR os k first).2 = true ∧ ¬ (z_am k = true ∧ 5 ≤ os.length) then some (z_aR os k first).1 else none
def z_aL : Bool → List Opn → List Int → Option (List Opn)
 | _, os, [] => some os
 | f, os, k :: r => match z_bo f os k with
  | none => none
  | some os' => z_aL false os' r
theorem z_fs (k : Int) : ∀ (f : Bool) (os : List Opn) (ks : List Int), z_aL f os (ks ++ [k]) = (z_aL f os ks).bind fun os' => z_bo (f && ks.isEmpty) os' k
 | f, os, [] => by
  simp only [List.nil_append, z_aL, List.isEmpty_nil, Bool.and_true, Option.bind_some]
  cases z_bo f os k <;> rfl
 | f, os, a :: r => by
  simp only [List.cons_append, z_aL, List.isEmpty_cons, Bool.and_false]
  cases z_bo f os a with
  | none => rfl
  | some os' => simp only; rw [z_fs k false os' r]; simp
theorem z_fb (b : List Int) : ∀ (f : Bool) (os : List Opn) (a : List Int), z_aL f os a = none → z_aL f os (a ++ b) = none
 | f, os, [], h => by simp [z_aL] at h
 | f, os, x :: r, h => by
  simp only [List.cons_append, z_aL] at h ⊢
  cases hs : z_bo f os x with
  | none => rfl
  | some os' => rw [hs] at h; exact z_fb b false os' r h
inductive Bl where
 | nil : Bl
 | plain : Ln → Bl → Bl
 | one : Ln → Bl → Ln → Bl → Bl
 | two : Ln → Bl → Ln → Bl → Ln → Bl → Bl
def Bl.flat : Bl → List Ln
 | .nil => []
 | .plain l r => l :: r.flat
 | .one l p e r => l :: (p.flat ++ e :: r.flat)
 | .two l p m q e r => l :: (p.flat ++ m :: (q.flat ++ e :: r.flat))
def Bl.wf : Bl → Prop
 | .nil => True
 | .plain l r => z_am l.1 = false ∧ z_ae l.1 = false ∧ l.1 ≠ 1 ∧ r.wf
 | .one l p e r => z_am l.1 = true ∧ l.1 ≠ 9 ∧ e.1 = 11 ∧ p.wf ∧ r.wf
 | .two l p m q e r => ((z_aE l.1 = true ∧ m.1 = 7) ∨ (l.1 = 9 ∧ m.1 = 10)) ∧ e.1 = 11 ∧ p.wf ∧ q.wf ∧ r.wf
theorem z_kS {f : Bool} {os os' : List Opn} {k : Int} (h : z_bo f os k = some os') (ho : z_am k = true) (hf : (k == 1) = f) : os' = os ++ [(k, false)] := by
 unfold z_bo at h
 split at h
 ·rw [z_aR, hf, ho] at h; simpa using h.symm
 ·cases h
theorem z_fm {f : Bool} {os os' : List Opn} {k : Int} (h : z_bo f os k = some os') (ho : z_am k = false) (hc : z_ae k = false) : os' = os ∧ (k == 1) = f := by
 unfold z_bo at h
 split at h
 ·rename_i h1
  by_cases hf : ((k == 1) != f) = true
  ·rw [z_aR, if_pos hf] at h1; simp at h1
  ·rw [z_aR, if_neg hf, ho, hc] at h
   refine ⟨by simpa using h.symm, ?_⟩
   simpa using hf
 ·cases h
theorem z_bd (k : Int) : z_ae k = true ↔ k = 7 ∨ k = 10 ∨ k = 11 := by simp [z_ae, or_assoc]
theorem z_bX (k : Int) : z_am k = true ↔ k = 6 ∨ k = 14 ∨ k = 8 ∨ k = 9 := by simp [z_am, z_aE, or_assoc]
theorem z_bK (k : Int) : z_aE k = true ↔ k = 6 ∨ k = 14 := by simp [z_aE]
theorem z_c {k : Int} (h : z_ae k = true) : z_am k = false := by
 rw [z_bd] at h
 rcases h with rfl | rfl | rfl <;> rfl
theorem z_fp {os os' : List Opn} {k x : Int} {t : Bool} (h : z_bo false (os ++ [(x, t)]) k = some os') (hc : z_ae k = true) :
  (k = 7 ∧ z_aE x = true ∧ t = false ∧ os' = os ++ [(x, true)]) ∨ (k = 10 ∧ x = 9 ∧ t = false ∧ os' = os ++ [(x, true)]) ∨ (k = 11 ∧ (x ≠ 9 ∨ t = true) ∧ os' = os) := by
 have ho := z_c hc
 have h1 : (k == 1) = false := by
  rw [z_bd] at hc
  rcases hc with rfl | rfl | rfl <;> rfl
 unfold z_bo at h
 split at h
 ·rename_i hh
  have hg := hh.1
  rw [z_aR, h1, ho, hc] at h hg
  rw [z_bd] at hc
  rcases hc with rfl | rfl | rfl
  ·left
   simp at h hg
   exact ⟨rfl, hg.1, hg.2, h.symm⟩
  ·right; left
   simp at h hg
   exact ⟨rfl, hg.1, hg.2, h.symm⟩
  ·right; right
   simp at h hg
   exact ⟨rfl, hg, h.symm⟩
 ·cases h
theorem z_c6 {os' : List Opn} {k : Int} (hc : z_ae k = true) : z_bo false [] k ≠ some os' := by
 intro h
 have ho := z_c hc
 have h1 : (k == 1) = false := by
  rw [z_bd] at hc
  rcases hc with rfl | rfl | rfl <;> rfl
 unfold z_bo at h
 split at h
 ·rename_i hh
  have hg := hh.1
  rw [z_aR, h1, ho, hc] at hg
  simp at hg
 ·cases h
def z_bf (ls : List Ln) : List Int := ls.map (·.1)
theorem z_nj (n : Nat) : ∀ (ls : List Ln) (os : List Opn), ls.length ≤ n → z_aL false os (z_bf ls) = some [] →
  ∃ (t : Bl) (rest : List Ln), ls = t.flat ++ rest ∧ t.wf ∧ ((rest = [] ∧ os = []) ∨ ∃ c r, rest = c :: r ∧ z_ae c.1 = true ∧ z_aL false os (z_bf rest) = some []) := by
 induction n with
 | zero =>
  intro ls os hn h
  have : ls = [] := List.length_eq_zero_iff.1 (by omega)
  subst this
  have : os = [] := by simpa [z_bf, z_aL] using h
  exact ⟨.nil, [], rfl, trivial, .inl ⟨rfl, this⟩⟩
 | succ n ih =>
  intro ls os hn0 hh0
  match ls, hn0, hh0 with
  | [], _, h =>
   have : os = [] := by simpa [z_bf, z_aL] using h
   exact ⟨.nil, [], rfl, trivial, .inl ⟨rfl, this⟩⟩
  | l :: r, hn, h =>
   have hn' : r.length ≤ n := by simpa using hn
   cases hc : z_ae l.1 with
   | true => exact ⟨.nil, l :: r, rfl, trivial, .inr ⟨l, r, rfl, hc, h⟩⟩
   | false =>
    have h0 := h
    simp only [z_bf, List.map_cons, z_aL] at h
    cases hs : z_bo false os l.1 with
    | none => rw [hs] at h; cases h
    | some os1 =>
     rw [hs] at h
     cases ho : z_am l.1 with
     | false =>
      obtain ⟨e0, hk⟩ := z_fm hs ho hc
      rw [e0] at h
      obtain ⟨t, rest, e, hw, hr⟩ := ih r os hn' h
      exact ⟨.plain l t, rest, by rw [e]; rfl, ⟨ho, hc, by simpa using hk, hw⟩, hr⟩
     | true =>
      have hf : (l.1 == 1) = false := by
       rw [z_bX] at ho
       rcases ho with e | e | e | e <;> rw [e] <;> rfl
      have e1 := z_kS hs ho hf
      subst e1
      obtain ⟨p, rest, e, hp, hr⟩ := ih r _ hn' h
      rcases hr with ⟨_, hb⟩ | ⟨c, r1, rfl, hcl, hr⟩
      ·simp at hb
      have hlen : p.flat.length + r1.length + 1 ≤ n := by
       have := congrArg List.length e
       simp at this; omega
      simp only [z_bf, List.map_cons, z_aL] at hr
      cases hs1 : z_bo false (os ++ [(l.1, false)]) c.1 with
      | none => rw [hs1] at hr; cases hr
      | some os2 =>
       rw [hs1] at hr
       have key : ∀ (hcc : (z_aE l.1 = true ∧ c.1 = 7) ∨ (l.1 = 9 ∧ c.1 = 10)), os2 = os ++ [(l.1, true)] →
         ∃ (t : Bl) (rest : List Ln), l :: r = t.flat ++ rest ∧ t.wf ∧ ((rest = [] ∧ os = []) ∨ ∃ c r, rest = c :: r ∧ z_ae c.1 = true ∧ z_aL false os (z_bf rest) = some []) := by
        intro hcc e2
        subst e2
        obtain ⟨q, rest2, e2, hq, hr2⟩ := ih r1 _ (by omega) hr
        rcases hr2 with ⟨_, hb⟩ | ⟨c2, r2, rfl, hcl2, hr2⟩
        ·simp at hb
        have hlen2 : q.flat.length + r2.length + 1 ≤ r1.length := by
         have := congrArg List.length e2
         simp at this; omega
        simp only [z_bf, List.map_cons, z_aL] at hr2
        cases hs2 : z_bo false (os ++ [(l.1, true)]) c2.1 with
        | none => rw [hs2] at hr2; cases hr2
        | some os3 =>
         rw [hs2] at hr2
         rcases z_fp hs2 hcl2 with ⟨_, _, hb, _⟩ | ⟨_, _, hb, _⟩ | ⟨h11, _, rfl⟩
         ·cases hb
         ·cases hb
         obtain ⟨t3, rest3, e3, h3, hr3⟩ := ih r2 _ (by omega) hr2
         refine ⟨.two l p c q c2 t3, rest3, ?_, ⟨hcc, h11, hp, hq, h3⟩, hr3⟩
         rw [e, e2, e3]; simp [Bl.flat]
       rcases z_fp hs1 hcl with ⟨h7, hch, _, e2⟩ | ⟨h10, h9, _, e2⟩ | ⟨h11, h9, e2⟩
       ·exact key (.inl ⟨hch, h7⟩) e2
       ·exact key (.inr ⟨h9, h10⟩) e2
       ·subst e2
        obtain ⟨t3, rest3, e3, h3, hr3⟩ := ih r1 _ (by omega) hr
        refine ⟨.one l p c t3, rest3, ?_, ⟨ho, h9.resolve_right (by simp), h11, hp, h3⟩, hr3⟩
        rw [e, e3]; simp [Bl.flat]
theorem z_j5 (ls : List Ln) (h0 : ls ≠ []) (h : z_aL true [] (z_bf ls) = some []) : ∃ (l : Ln) (t : Bl), ls = l :: t.flat ∧ l.1 = 1 ∧ t.wf := by
 match ls, h0, h with
 | l :: r, _, h =>
  simp only [z_bf, List.map_cons, z_aL] at h
  cases hs : z_bo true [] l.1 with
  | none => rw [hs] at h; cases h
  | some os1 =>
   rw [hs] at h
   have h1 : (l.1 == 1) = true := by
    unfold z_bo at hs
    split at hs
    ·rename_i hh
     have hg := hh.1
     rw [z_aR] at hg
     split at hg
     ·simp at hg
     ·rename_i hx; simpa using hx
    ·cases hs
   have e1 : l.1 = 1 := by simpa using h1
   have : os1 = [] := (z_fm hs (by rw [e1]; rfl) (by rw [e1]; rfl)).1
   subst this
   obtain ⟨t, rest, e, hw, hr⟩ := z_nj r.length r [] (Nat.le_refl _) h
   rcases hr with ⟨rfl, _⟩ | ⟨c, r1, rfl, hcl, hr⟩
   ·exact ⟨l, t, by rw [e]; simp, e1, hw⟩
   ·exfalso
    simp only [z_bf, List.map_cons, z_aL] at hr
    cases hs2 : z_bo false [] c.1 with
    | none => rw [hs2] at hr; cases hr
    | some os2 => exact z_c6 hcl hs2
end
end Go.Proofs.YtlbjjbolbopfmaaGreatDoor
