import Derived.Test.YtlbjjbolbopfmaaGreatDoorI16
import Derived.Test.YtlbjjbolbopfmaaGreatDoorI07
import Derived.Test.YtlbjjbolbopfmaaGreatDoorI08
import Derived.Deep.RegionWith
import Derived.Deep.CutRange
import Derived.Deep.CutBlock
namespace Go.Proofs.YtlbjjbolbopfmaaGreatDoor
set_option maxHeartbeats 4000000
set_option maxRecDepth 1000000
set_option linter.unusedVariables false
section
open Go.RowKit
def mkB (l : List UInt8) : ByteArray := ⟨l.toArray⟩
def wl : List UInt8 → List UInt8 → List ByteArray
 | cur, [] => if cur = [] then [] else [mkB cur]
 | cur, b :: r => if b = 32 then (if cur = [] then wl [] r else mkB cur :: wl [] r) else wl (cur ++ [b]) r
theorem z_jT (y : List UInt8) : ∀ (x cur : List UInt8), wl cur (x ++ 32 :: y) = wl cur x ++ wl [] y
 | [], cur => by
  simp only [List.nil_append, wl, if_true]
  split <;> rfl
 | b :: r, cur => by
  simp only [List.cons_append, wl]
  split
  ·split
   ·exact z_jT y r []
   ·rw [z_jT y r []]; rfl
  ·exact z_jT y r _
theorem z_ge (s : ByteArray) (i j : Nat) : s.extract i j = mkB ((s.data.toList.drop i).take (j - i)) := by
 apply ByteArray.ext
 rw [ByteArray.data_extract]
 apply Array.toList_inj.1
 simp [mkB]
theorem z_ln (l : List UInt8) (i p : Nat) (h : p < l.length) (hi : i ≤ p) : (l.drop i).take (p + 1 - i) = (l.drop i).take (p - i) ++ [l[p]] := by
 have e : p + 1 - i = (p - i) + 1 := by omega
 rw [e, List.take_succ_eq_append_getElem (by simp; omega)]
 simp [show i + (p - i) = p by omega]
theorem z_kc (s : ByteArray) : ∀ (n pos : Nat), pos + n = s.size →
  cutSp s n pos (-1) = wl [] (s.data.toList.drop pos) ∧ ∀ st, st < pos → cutSp s n pos (st : Nat) = wl ((s.data.toList.drop st).take (pos - st)) (s.data.toList.drop pos)
 | 0, pos, h => by
  have hl : s.data.toList.length = s.size := by simp
  have hd : s.data.toList.drop pos = [] := List.drop_eq_nil_of_le (by omega)
  refine ⟨?_, fun st hs => ?_⟩
  ·rw [cutSp, if_neg (by omega), hd]; rfl
  ·rw [cutSp, if_pos (by omega), hd, wl, if_neg, Int.toNat_natCast, z_ge, show s.size = pos by omega]
   intro e
   have := congrArg List.length e
   simp at this; omega
 | n + 1, pos, h => by
  obtain ⟨h1, h2⟩ := z_kc s n (pos + 1) (by omega)
  have hp : pos < s.size := by omega
  have hl : s.data.toList.length = s.size := by simp
  have hg : s.get! pos = s[pos]'hp := get_at s pos hp
  have hg2 : s[pos]'hp = s.data.toList[pos]'(by omega) := rfl
  have hd : s.data.toList.drop pos = s.data.toList[pos]'(by omega) :: s.data.toList.drop (pos + 1) := List.drop_eq_getElem_cons (by omega)
  rw [hg2] at hg
  by_cases hb : s.get! pos = 32
  ·have hb' := hg.symm.trans hb
   refine ⟨?_, fun st hs => ?_⟩
   ·rw [cutSp, if_pos hb, if_neg (by omega), h1, hd, wl, if_pos hb', if_pos rfl]
   ·rw [cutSp, if_pos hb, if_pos (by omega), h1, hd, wl, if_pos hb', if_neg, Int.toNat_natCast, z_ge]
    intro e
    have := congrArg List.length e
    simp at this; omega
  ·have hb' : ¬ s.data.toList[pos]'(by omega) = 32 := fun e => hb (hg.trans e)
   refine ⟨?_, fun st hs => ?_⟩
   ·rw [cutSp, if_neg hb, if_pos (by omega), h2 pos (by omega), hd, wl, if_neg hb', show pos + 1 - pos = 1 by omega]
    rfl
   ·rw [cutSp, if_neg hb, if_neg (by omega), h2 st (by omega), hd, wl, if_neg hb', z_ln _ _ _ (by omega) (by omega)]
theorem z_me (s : ByteArray) : wordsW s = wl [] s.data.toList := (z_kc s s.size 0 (by omega)).1
def z_fy (l : List UInt8) : List ByteArray := wl [] l
theorem z_gh (x y : List UInt8) : z_fy (x ++ 32 :: y) = z_fy x ++ z_fy y := z_jT y x []
theorem z_de (s : ByteArray) : wordsW s = z_fy s.data.toList := z_me s
end
section
open Go.RowKit
theorem z_ck (w : World) (ss : List ByteArray) (t : TypeId) : StrsAt w.heap.size (w.alloc (.cells (strCells ss).toArray t)).heap.size (w.alloc (.cells (strCells ss).toArray t)) (some ⟨w.heap.size, 0, none⟩) ss := by
 intro k hk
 refine ⟨w.heap.size, 0, rfl, ⟨Nat.le_refl _, by simp⟩, ?_⟩
 rw [World.cell?_alloc_at _ _ _ _ rfl]
 simp [strCells, hk, List.getD]
def kindsS : List ByteArray := eS :: (List.range 15).map fun i : Nat => z_a2 ((i : Int) + 1)
theorem z_fD (k : Nat) (h1 : 1 ≤ k) (h2 : k < 16) : kindsS.getD k ByteArray.empty = z_a2 k := by
 obtain ⟨j, rfl⟩ : ∃ j, k = j + 1 := ⟨k - 1, by omega⟩
 have hj : j < 15 := by omega
 simp [kindsS, List.getD, hj]
theorem z_b1 (w : World) : Calls Tryz.prog 137 #[] w fun e w' => e = .returned (.slice (some ⟨w.heap.size, 0, none⟩) 16 16) ∧ Below w.heap.size w w' ∧ StrsAt w.heap.size w'.heap.size w' (some ⟨w.heap.size, 0, none⟩) kindsS := by
 have HS := z_ck w kindsS 9
 go_enter Tryz.func137, Tryz.ntmps137
 go_wp2
 go_ret
 exact ⟨rfl, (Below.refl _ _).alloc (Nat.le_refl _) _, HS⟩
def opsS : List ByteArray := [⟨#[105, 115]⟩, ⟨#[97, 100, 100]⟩, ⟨#[115, 117, 98]⟩, ⟨#[109, 117, 108]⟩]
def z_cz : List ByteArray := [⟨#[108, 101, 115, 115]⟩, ⟨#[115, 97, 109, 101]⟩, ⟨#[109, 111, 114, 101]⟩, ⟨#[111, 116, 104, 101, 114]⟩]
theorem z_cd (w : World) : Calls Tryz.prog 196 #[] w fun e w' => e = .returned (.slice (some ⟨w.heap.size, 0, none⟩) 4 4) ∧ Below w.heap.size w w' ∧ StrsAt w.heap.size w'.heap.size w' (some ⟨w.heap.size, 0, none⟩) opsS := by
 have HS := z_ck w opsS 9
 go_enter Tryz.func196, Tryz.ntmps196
 go_wp2
 go_ret
 exact ⟨rfl, (Below.refl _ _).alloc (Nat.le_refl _) _, HS⟩
theorem z_ct (w : World) : Calls Tryz.prog 179 #[] w fun e w' => e = .returned (.slice (some ⟨w.heap.size, 0, none⟩) 4 4) ∧ Below w.heap.size w w' ∧ StrsAt w.heap.size w'.heap.size w' (some ⟨w.heap.size, 0, none⟩) z_cz := by
 have HS := z_ck w z_cz 9
 go_enter Tryz.func179, Tryz.ntmps179
 go_wp2
 go_ret
 exact ⟨rfl, (Below.refl _ _).alloc (Nat.le_refl _) _, HS⟩
end
section
open Go.RowKit
theorem z_en {xs ys : List ByteArray} {k : Nat} (hx : k < xs.length) (hy : k < ys.length) (h : xs.take k = ys.take k) (he : xs[k] = ys[k]) : xs.take (k + 1) = ys.take (k + 1) := by
 rw [List.take_succ_eq_append_getElem hx, List.take_succ_eq_append_getElem hy, h, he]
theorem z_k8 (k k' : Int) (d d' : Bd) (a1 a2 : Option Addr) (c c' : Nat) (A1 A2 : Nat) (w : World) (hx : d.args.length ≤ 9223372036854775807) (hy : d'.args.length ≤ 9223372036854775807) (h1 : StrsAt A1 w.heap.size w a1 d.args) (h2 : StrsAt A2 w.heap.size w a2 d'.args) :
  Calls Tryz.prog 139 #[.agg #[.int .i64 k, .string d.to, .string d.name, .slice a1 d.args.length c, .string d.undo], .agg #[.int .i64 k', .string d'.to, .string d'.name, .slice a2 d'.args.length c', .string d'.undo]] w fun e w' => e = .returned (.bool (z_aZ k k' d d')) ∧ Below w.heap.size w w' := by
 have H1 : Hid (StrsAt A1 w.heap.size w a1 d.args) := h1
 have H2 : Hid (StrsAt A2 w.heap.size w a2 d'.args) := h2
 clear h1 h2
 have HB : Hid (∀ L L' : Obj, Below w.heap.size w ((w.alloc L).alloc L')) := fun L L' => ((Below.refl _ _).alloc (Nat.le_refl _) _).alloc (by simp) _
 cases q1 : (k == k') with
 | false =>
  have b1 : (k != k') = true := by rw [bne, q1]; rfl
  go_enter Tryz.func139, Tryz.ntmps139
  go_wp2
  go_ret
  exact ⟨by simp only [z_aZ, q1] <;> rfl, HB.out _ _⟩
 | true =>
  have b1 : (k != k') = false := by rw [bne, q1]; rfl
  cases q2 : (d.to.toList == d'.to.toList) with
  | false =>
   go_enter Tryz.func139, Tryz.ntmps139
   go_wp2
   go_ret
   exact ⟨by simp only [z_aZ, q1, q2] <;> rfl, HB.out _ _⟩
  | true =>
   cases q3 : (d.name.toList == d'.name.toList) with
   | false =>
    go_enter Tryz.func139, Tryz.ntmps139
    go_wp2
    go_ret
    exact ⟨by simp only [z_aZ, q1, q2, q3] <;> rfl, HB.out _ _⟩
   | true =>
    cases q4 : (d.undo.toList == d'.undo.toList) with
    | false =>
     go_enter Tryz.func139, Tryz.ntmps139
     go_wp2
     go_ret
     exact ⟨by simp only [z_aZ, q1, q2, q3, q4] <;> rfl, HB.out _ _⟩
    | true =>
     cases q5 : ((d.args.length : Int) == (d'.args.length : Int)) with
     | false =>
      have b5 : ((d.args.length : Int) != (d'.args.length : Int)) = true := by rw [bne, q5]; rfl
      have HQ : Hid (decide (d.args = d'.args) = false) := by
       show _ = _
       rw [decide_eq_false_iff_not]
       intro e; rw [e] at q5; simp at q5
      go_enter Tryz.func139, Tryz.ntmps139
      go_wp2
      go_ret
      exact ⟨by simp only [z_aZ, q1, q2, q3, q4, HQ.out] <;> rfl, HB.out _ _⟩
     | true =>
      have hlen : d.args.length = d'.args.length := by have := eq_of_beq q5; omega
      have b5 : ((d.args.length : Int) != (d'.args.length : Int)) = false := by rw [bne, q5]; rfl
      have HLEN : Hid (d.args.length = d'.args.length) := hlen
      clear hlen
      go_enter Tryz.func139, Tryz.ntmps139
      go_wp2
      go_loopw [5] (fun i wr => ∃ n : Nat, n ≤ d.args.length ∧ i = .int .i64 n ∧ Hid (d.args.take n = d'.args.take n) ∧ Hid (Below w.heap.size w wr) ∧ wr.cell? ⟨w.heap.size, 3, none⟩ = some (.slice a1 d.args.length c) ∧ wr.cell? ⟨w.heap.size + 1, 3, none⟩ = some (.slice a2 d'.args.length c')) (fun i _ => d.args.length - (intOf i).toNat)
      case atStart => exact ⟨0, Nat.zero_le _, rfl, rfl, HB.out _ _, by simp, by simp⟩
      case round =>
       obtain ⟨n, hn, rfl, HT, HBW, r0, r1⟩ := hrel
       by_cases hlt : n < d.args.length
       ·have hlt2 : n < d'.args.length := by rw [← HLEN.out]; exact hlt
        obtain ⟨b, off, rfl, hB, hc0⟩ := H1.out.at n hlt
        obtain ⟨b2, off2, rfl, hB2, hc2⟩ := H2.out.at n hlt2
        have hc1 := (HBW.out.cell (p := ⟨b, off + n, none⟩) (by show b < _; omega)).trans hc0
        have hc3 := (HBW.out.cell (p := ⟨b2, off2 + n, none⟩) (by show b2 < _; omega)).trans hc2
        clear hc0 hc2
        cases hq : (d.args[n].toList == d'.args[n].toList) with
        | true =>
         have HN : Hid (d.args.take (n + 1) = d'.args.take (n + 1)) := z_en hlt hlt2 HT.out (by rw [z_aI] at hq; simpa using hq)
         go_wp2
         go_region
         go_wp2
         go_roundw
         case rel => exact ⟨n + 1, by omega, by go_num, HN, HBW.out.drew, r0, r1⟩
         case measure => simp [intOf]; omega
        | false =>
         have HQ : Hid (decide (d.args = d'.args) = false) := by
          show _ = _
          rw [decide_eq_false_iff_not]
          intro e
          have : d.args[n] = d'.args[n] := by simp only [e]
          rw [z_aI] at hq; simp [this] at hq
         go_wp2
         go_region
         go_wp2
         go_ret
         exact ⟨by simp only [z_aZ, q1, q2, q3, q4, HQ.out] <;> rfl, HBW.out.drew⟩
       ·have HQ : Hid (decide (d.args = d'.args) = true) := by
         show _ = _
         rw [decide_eq_true_iff]
         have h3 := HT.out
         rw [List.take_of_length_le (by omega), List.take_of_length_le (by rw [← HLEN.out]; omega)] at h3
         exact h3
        go_wp2
        go_ret
        exact ⟨by simp only [z_aZ, q1, q2, q3, q4, HQ.out] <;> rfl, HBW.out⟩
end
section
open Go.RowKit
def spB : ByteArray := ⟨#[32]⟩
theorem z_dc (a b : ByteArray) : (a ++ b).data.toList = a.data.toList ++ b.data.toList := by
 rw [ByteArray.data_append, Array.toList_append]
theorem z_aP (a x : ByteArray) : wordsW ((a ++ spB) ++ x) = wordsW a ++ wordsW x := by
 rw [z_de, z_de, z_de, z_dc, z_dc, List.append_assoc]
 exact z_gh _ _
def z_a7 (ws : List ByteArray) : List ByteArray := ws.flatMap wordsW
theorem z_dW (a b : List ByteArray) : z_a7 (a ++ b) = z_a7 a ++ z_a7 b := by simp [z_a7]
theorem z_bj (a : ByteArray) (b : List ByteArray) : z_a7 (a :: b) = wordsW a ++ z_a7 b := by simp [z_a7]
theorem z_cL : z_a7 [] = [] := rfl
theorem z_c8 : ∀ (r : List ByteArray) (x : List UInt8), z_fy (x ++ Lib.joinTail [32] (r.map (·.data.toList))) = z_fy x ++ z_a7 r
 | [], x => by simp [Lib.joinTail, z_a7]
 | a :: r, x => by
  have e : x ++ Lib.joinTail [32] ((a :: r).map (·.data.toList)) = x ++ 32 :: (a.data.toList ++ Lib.joinTail [32] (r.map (·.data.toList))) := by
   simp [Lib.joinTail]
  rw [e, z_gh, z_c8 r, z_bj, z_de]
theorem z_jO (ws : List ByteArray) : wordsW (z_ca ws) = z_a7 ws := by
 rw [z_de, z_ca]
 show z_fy (Lib.join (ws.map (·.data.toList)) [32]) = _
 cases ws with
 | nil => rfl
 | cons a r => rw [List.map_cons, Lib.join_cons, z_c8, z_bj, z_de]
theorem z_cb {s : ByteArray} (h : s.size = 0) : wordsW s = [] := by rw [z_bF h]; rfl
theorem z_kL (ms : List ByteArray) : z_a7 (z_ax ms) = z_a7 ms := by
 induction ms with
 | nil => rfl
 | cons a r ih =>
  rw [z_bj, ← ih]
  by_cases h : a.size = 0
  ·rw [z_cb h, z_ax, List.filter_cons_of_neg (by simp only [decide_eq_true_eq]; omega)]; rfl
  ·rw [z_ax, List.filter_cons_of_pos (by simp only [decide_eq_true_eq]; omega), z_bj]; rfl
theorem z_g : wordsW forS = [forS] := by decide
theorem z_fw : wordsW z_ex = [z_ex] := by decide
theorem z_kI (u : ByteArray) : z_a7 (z_co u) = if u.size = 0 then [] else z_ex :: wordsW u := by
 rw [z_co]
 split
 ·rfl
 ·rw [z_bj, z_bj, z_fw, z_cL, List.append_nil]; rfl
theorem z_hj (a : ByteArray) : wordsW (a ++ ⟨#[32, 102, 111, 114]⟩) = wordsW a ++ [forS] := by
 have e : a ++ (⟨#[32, 102, 111, 114]⟩ : ByteArray) = (a ++ spB) ++ forS := by
  apply ByteArray.ext; apply Array.toList_inj.1; rw [z_dc, z_dc, z_dc]; simp [spB, forS]
 rw [e, z_aP, z_g]
theorem z_fM (a u : ByteArray) : wordsW ((a ++ ⟨#[32, 117, 110, 100, 111, 32]⟩) ++ u) = wordsW a ++ (z_ex :: wordsW u) := by
 have e : (a ++ (⟨#[32, 117, 110, 100, 111, 32]⟩ : ByteArray)) ++ u = (((a ++ spB) ++ z_ex) ++ spB) ++ u := by
  apply ByteArray.ext; apply Array.toList_inj.1; simp only [z_dc]; simp [spB, z_ex]
 rw [e, z_aP, z_aP, z_fw, List.append_assoc]; rfl
theorem z_id {k : Int} {d : Bd} (h : branchK k = true) : z_a7 (outW k d) = wordsW (z_a2 k) ++ (wordsW (d.args.getD 0 eS) ++ (wordsW d.name ++ wordsW (d.args.getD 1 eS))) := by
 rw [outW, if_pos h]; simp only [z_bj, z_cL, List.append_nil]
theorem z_kr {k : Int} {d : Bd} (h : branchK k = false) : z_a7 (outW k d) = wordsW (z_a2 k) ++ (wordsW d.to ++ wordsW d.name) ++ (if k = 5 ∧ 0 < d.args.length then [forS] else []) ++ z_a7 d.args ++ (if d.undo.size = 0 then [] else z_ex :: wordsW d.undo) := by
 rw [outW, if_neg (by rw [h]; decide), z_dW, z_dW, z_dW, z_bj, z_kL, z_kI]
 congr 3
 ·simp only [z_bj, z_cL, List.append_nil]
 ·split
  ·rw [z_bj, z_g]; rfl
  ·rfl
end
section
open Go.RowKit
theorem z_d9 {A B g g' k : Nat} {w : World} (h : StrsAt A B w (some ⟨g, 0, none⟩) kindsS) (hg : g' = g) (h1 : 1 ≤ k) (h2 : k < 16) {K : ByteArray} (hK : z_a2 (k : Int) = K) : w.cell? ⟨g', k, none⟩ = some (.string K) := by
 subst hg hK
 obtain ⟨b, off, e, _, hc⟩ := h k h2
 cases e
 rw [Nat.zero_add, z_fD k h1 h2] at hc
 exact hc
theorem z_hw {w w1 : World} {a b c d e : Value} {t : TypeId} (h : Below (w.alloc (.cells #[a, b, c, d, e] t)).drew.heap.size (w.alloc (.cells #[a, b, c, d, e] t)).drew w1) :
  Aside (Below w.heap.size w w1) ∧ w1.cell? ⟨w.heap.size, 0, none⟩ = some a ∧ w1.cell? ⟨w.heap.size, 1, none⟩ = some b ∧ w1.cell? ⟨w.heap.size, 2, none⟩ = some c ∧ w1.cell? ⟨w.heap.size, 3, none⟩ = some d ∧ w1.cell? ⟨w.heap.size, 4, none⟩ = some e := by
 have hs : (w.alloc (.cells #[a, b, c, d, e] t)).drew.heap.size = w.heap.size + 1 := by simp
 have h2 := (((Below.refl w.heap.size w).alloc (Nat.le_refl _) (.cells #[a, b, c, d, e] t)).drew).trans (h.mono (by omega))
 have hc := fun j => h.cell (p := ⟨w.heap.size, j, none⟩) (by rw [hs]; exact Nat.lt_succ_self _)
 exact ⟨h2, (hc 0).trans (by simp), (hc 1).trans (by simp), (hc 2).trans (by simp), (hc 3).trans (by simp), (hc 4).trans (by simp)⟩
theorem z_bU (a b : ByteArray) : (a ++ b).size = a.size + b.size := ByteArray.size_append
theorem z_dT (k : Nat) (d : Bd) (ao : Option Addr) (c : Nat) (w : World) (hk : k = 6 ∨ k = 8) (hl : d.args.length = 2) (hc : d.args.length ≤ c)
  (hz2 : d.name.size ≤ 1048576) (hz4 : ∀ s ∈ d.args, s.size ≤ 1048576) (hi : StrsAt 0 w.heap.size w ao d.args) :
  Calls Tryz.prog 136 #[.agg #[.int .i64 k, .string d.to, .string d.name, .slice ao d.args.length c, .string d.undo]] w fun e w' => ∃ t : ByteArray, e = .returned (.string t) ∧ Below w.heap.size w w' ∧ wordsW t = z_a7 (outW (k : Int) d) ∧ t.size ≤ 4398046510000 := by
 obtain ⟨b, off, rfl, hB, x0⟩ := hi.at 0 (by omega)
 obtain ⟨b', off', e, _, x1⟩ := hi.at 1 (by omega)
 cases e
 have HX : Hid (w.cell? ⟨b, off, none⟩ = some (.string d.args[0]) ∧ w.cell? ⟨b, off + 1, none⟩ = some (.string d.args[1])) := ⟨by simpa using x0, x1⟩
 have hbb : b < w.heap.size := hB.2
 obtain ⟨K, HKK⟩ : ∃ K, Hid (z_a2 (k : Int) = K) := ⟨_, rfl⟩
 have hwk : K.size ≤ 8 := by rw [← HKK.out]; exact z_cJ (k : Int)
 have z0 := hz4 _ (List.getElem_mem (l := d.args) (n := 0) (by omega))
 have z1 := hz4 _ (List.getElem_mem (l := d.args) (n := 1) (by omega))
 have f1 : ¬ 9223372036854775807 < K.size + 1 := by omega
 have f2 : ¬ 9223372036854775807 < K.size + 1 + d.args[0].size := by omega
 have f3 : ¬ 9223372036854775807 < K.size + 1 + d.args[0].size + 1 := by omega
 have f4 : ¬ 9223372036854775807 < K.size + 1 + d.args[0].size + 1 + d.name.size := by omega
 have f5 : ¬ 9223372036854775807 < K.size + 1 + d.args[0].size + 1 + d.name.size + 1 := by omega
 have f6 : ¬ 9223372036854775807 < K.size + 1 + d.args[0].size + 1 + d.name.size + 1 + d.args[1].size := by omega
 have HT : Hid (∀ t : ByteArray, t = ((((((K ++ spB) ++ d.args[0]) ++ spB) ++ d.name) ++ spB) ++ d.args[1]) → wordsW t = z_a7 (outW (k : Int) d) ∧ t.size ≤ 4398046510000) := by
  rintro t rfl
  rw [← HKK.out]
  have e0 : d.args.getD 0 eS = d.args[0] := by simp [List.getD, hl]
  have e1 : d.args.getD 1 eS = d.args[1] := by simp [List.getD, hl]
  constructor
  ·rw [z_id (by rcases hk with rfl | rfl <;> rfl), z_aP, z_aP, z_aP, e0, e1]
   simp only [List.append_assoc]
  ·simp only [z_bU]
   have hwk2 := z_cJ (k : Int)
   have h0 := hz4 _ (List.getElem_mem (l := d.args) (n := 0) (by omega))
   have h1 := hz4 _ (List.getElem_mem (l := d.args) (n := 1) (by omega))
   have hs : spB.size = 1 := rfl
   omega
 have h1 : 1 ≤ k := by omega
 have h2 : k < 16 := by omega
 have hk16 : (k : Int) < 16 := by omega
 have hk0 : (0 : Int) ≤ k := by omega
 clear hi x0 x1 hB hwk hz4 z0 z1
 rcases hk with rfl | rfl
 all_goals
  go_enter Tryz.func136, Tryz.ntmps136
  go_wp2_with fail
  go_region_with (go_at_call 137; refine (z_b1 _).mono ?_; rintro e w1 ⟨rfl, hb1, hs1⟩; have hk1 := z_d9 (g' := w.heap.size + 1) hs1 (by simp) h1 h2 HKK.out; obtain ⟨hb2, r0, r1, r2, r3, r4⟩ := z_hw hb1; have y0 := (hb2.out.cell (p := ⟨b, off, none⟩) hbb).trans HX.out.1; have y1 := (hb2.out.cell (p := ⟨b, off + 1, none⟩) hbb).trans HX.out.2; clear hb1)
  all_goals
   go_wp2
   go_region
   go_wp2
   go_ret
   exact ⟨_, rfl, hb2.out.drew, HT.out _ rfl⟩
end
section
open Go.RowKit
def z_cA (K : ByteArray) (k : Int) (tt name : ByteArray) (args : List ByteArray) : List ByteArray := wordsW K ++ (wordsW tt ++ wordsW name) ++ (if k = 5 ∧ 0 < args.length then [forS] else [])
theorem z_kg {k : Int} {K tt name undo : ByteArray} {args : List ByteArray} (hb : branchK k = false) (hK : z_a2 k = K) (out : ByteArray) (h : wordsW out = z_cA K k tt name args ++ z_a7 args) :
  (undo.size = 0 → wordsW out = z_a7 (outW k ⟨tt, name, args, undo⟩)) ∧ (undo.size ≠ 0 → wordsW ((out ++ ⟨#[32, 117, 110, 100, 111, 32]⟩) ++ undo) = z_a7 (outW k ⟨tt, name, args, undo⟩)) := by
 rw [z_kr hb, hK]
 refine ⟨fun hu => ?_, fun hu => ?_⟩
 ·rw [h, if_pos hu, List.append_nil]; rfl
 ·rw [z_fM, h, if_neg hu]; rfl
theorem z_il {args : List ByteArray} {n : Nat} (h : n < args.length) {out : ByteArray} {P : List ByteArray} (ho : wordsW out = P ++ z_a7 (args.take n)) : wordsW ((out ++ spB) ++ args[n]) = P ++ z_a7 (args.take (n + 1)) := by
 rw [z_aP, ho, List.take_succ_eq_append_getElem h, z_dW, z_bj, z_cL, List.append_nil, List.append_assoc]
theorem z_cs {x : ByteArray} (h : x.size ≠ 0) : x.toList.isEmpty = false ∧ (x.toList == []) = false := by
 have hq : x.toList.isEmpty = false := by rw [z_av]; simpa using h
 exact ⟨hq, by rw [← hq]; cases x.toList <;> rfl⟩
theorem z_kv  (tt nm undo : ByteArray) (args : List ByteArray) (ao : Option Addr) (c : Nat) (w : World) (hl : args.length ≤ 1048576) (hc : args.length ≤ c)
  (hz1 : tt.size ≤ 1048576) (hz2 : nm.size ≤ 1048576) (hz3 : undo.size ≤ 1048576) (hz4 : ∀ s ∈ args, s.size ≤ 1048576) (hi : StrsAt 0 w.heap.size w ao args) :
  Calls Tryz.prog 136 #[.agg #[.int .i64 5, .string tt, .string nm, .slice ao args.length c, .string undo]] w fun e w' => ∃ t : ByteArray, e = .returned (.string t) ∧ Below w.heap.size w w' ∧ wordsW t = z_a7 (outW 5 ⟨tt, nm, args, undo⟩) ∧ t.size ≤ 4398046510000 := by
 have HI : Hid (StrsAt 0 w.heap.size w ao args) := hi
 have HZ : Hid (∀ s ∈ args, s.size ≤ 1048576) := hz4
 obtain ⟨K, HKK⟩ : ∃ K, Hid (z_a2 5 = K) := ⟨_, rfl⟩
 have hwk : K.size ≤ 8 := by rw [← HKK.out]; exact z_cJ 5
 have h1 : 1 ≤ 5 := by omega
 have h2 : 5 < 16 := by omega
 have hbr : branchK (5 : Int) = false := by decide
 have HE : Hid (∀ out, wordsW out = z_cA K 5 tt nm args ++ z_a7 args → (undo.size = 0 → wordsW out = z_a7 (outW 5 ⟨tt, nm, args, undo⟩)) ∧ (undo.size ≠ 0 → wordsW ((out ++ ⟨#[32, 117, 110, 100, 111, 32]⟩) ++ undo) = z_a7 (outW 5 ⟨tt, nm, args, undo⟩))) := fun out h => z_kg hbr HKK.out out h
 clear hi hz4 hbr
 go_enter Tryz.func136, Tryz.ntmps136
 go_wp2_with fail
 go_cut [3] from 5 to 9 (fun v wx => v = .string K ∧ Hid (Below w.heap.size w wx) ∧ wx.cell? ⟨w.heap.size, 0, none⟩ = some (.int .i64 5) ∧ wx.cell? ⟨w.heap.size, 1, none⟩ = some (.string tt) ∧ wx.cell? ⟨w.heap.size, 2, none⟩ = some (.string nm) ∧ wx.cell? ⟨w.heap.size, 3, none⟩ = some (.slice ao args.length c) ∧ wx.cell? ⟨w.heap.size, 4, none⟩ = some (.string undo))
 case first =>
  go_region_with (go_at_call 137; refine (z_b1 _).mono ?_; rintro e w1 ⟨rfl, hb1, hs1⟩; have hk1 := z_d9 (k := 5) (g' := w.heap.size + 1) hs1 (by simp) h1 h2 HKK.out; obtain ⟨hb2, r0, r1, r2, r3, r4⟩ := z_hw hb1; clear hb1)
  all_goals
   go_wp2_with fail
   go_meet
   case rel => exact ⟨rfl, hb2.out, r0, r1, r2, r3, r4⟩
 case rest =>
  obtain ⟨rfl, HB, r0, r1, r2, r3, r4⟩ := hcut
  have HB0 : Hid (Below w.heap.size w wc) := HB
  go_upto_block 0 with fail
  go_cut [3] from 12 to 64 (fun v wx => ∃ O : ByteArray, v = .string O ∧ wx = wc ∧ O.size ≤ 2100000 ∧ Hid (wordsW O = z_cA K 5 tt nm args))
  case first =>
   by_cases ha : args.length = 0
   ·have f1 : ¬ 9223372036854775807 < K.size + 1 := by omega
    have f2 : ¬ 9223372036854775807 < K.size + 1 + tt.size := by omega
    have f3 : ¬ 9223372036854775807 < K.size + 1 + tt.size + 1 := by omega
    have f4 : ¬ 9223372036854775807 < K.size + 1 + tt.size + 1 + nm.size := by omega
    have HW : Hid (wordsW ((((K ++ spB) ++ tt) ++ spB) ++ nm) = z_cA K 5 tt nm args) := by
     show _ = _
     rw [z_aP, z_aP, z_cA, if_neg (by omega), List.append_nil, List.append_assoc]
    have HL : Hid ((((((K ++ spB) ++ tt) ++ spB) ++ nm)).size ≤ 2100000) := by
     show _ ≤ _; simp only [z_bU]; have hs : spB.size = 1 := rfl; omega
    go_wp2
    go_meet
    case rel => exact ⟨_, rfl, rfl, HL.out, HW⟩
   ·have hn : 0 < args.length := by omega
    have f1 : ¬ 9223372036854775807 < K.size + 1 := by omega
    have f2 : ¬ 9223372036854775807 < K.size + 1 + tt.size := by omega
    have f3 : ¬ 9223372036854775807 < K.size + 1 + tt.size + 1 := by omega
    have f4 : ¬ 9223372036854775807 < K.size + 1 + tt.size + 1 + nm.size := by omega
    have f5 : ¬ 9223372036854775807 < K.size + 1 + tt.size + 1 + nm.size + 4 := by omega
    have HW : Hid (wordsW (((((K ++ spB) ++ tt) ++ spB) ++ nm) ++ ⟨#[32, 102, 111, 114]⟩) = z_cA K 5 tt nm args) := by
     show _ = _
     rw [z_hj, z_aP, z_aP, z_cA, if_pos ⟨rfl, hn⟩, List.append_assoc (wordsW K)]
    have HL : Hid ((((((K ++ spB) ++ tt) ++ spB) ++ nm) ++ ⟨#[32, 102, 111, 114]⟩).size ≤ 2100000) := by
     show _ ≤ _; simp only [z_bU]; have hs : spB.size = 1 := rfl; have hs4 : (⟨#[32, 102, 111, 114]⟩ : ByteArray).size = 4 := rfl; omega
    go_wp2
    go_meet
    case rel => exact ⟨_, rfl, rfl, HL.out, HW⟩
  case rest =>
   obtain ⟨O, rfl, rfl, hO, HO⟩ := hcut
   go_wp2_with fail
   go_loop [3, 4] (fun v ix => ∃ (n : Nat) (out : ByteArray), n ≤ args.length ∧ v = .string out ∧ ix = .int .i64 n ∧ Hid (wordsW out = z_cA K 5 tt nm args ++ z_a7 (args.take n)) ∧ out.size ≤ 2100000 + n * 1048577) (fun _ ix => args.length - (intOf ix).toNat)
   case atStart => exact ⟨0, O, Nat.zero_le _, rfl, rfl, by rw [List.take_zero, z_cL, List.append_nil]; exact HO, by omega⟩
   case round =>
    obtain ⟨n, out, hn, rfl, rfl, HW, hsz⟩ := hrel
    by_cases hlt : n < args.length
    ·obtain ⟨b, off, rfl, hB, hc0⟩ := HI.out.at n hlt
     have hc1 := (HB0.out.cell (p := ⟨b, off + n, none⟩) (by show b < _; omega)).trans hc0
     have hzn := HZ.out _ (List.getElem_mem hlt)
     have HN : Hid (wordsW ((out ++ spB) ++ args[n]) = z_cA K 5 tt nm args ++ z_a7 (args.take (n + 1))) := z_il hlt HW.out
     have HLN : Hid (((out ++ spB) ++ args[n]).size ≤ 2100000 + (n + 1) * 1048577) := by
      show _ ≤ _; simp only [z_bU]; have hs : spB.size = 1 := rfl; omega
     have f1 : ¬ 9223372036854775807 < out.size + 1 := by omega
     have f2 : ¬ 9223372036854775807 < out.size + 1 + args[n].size := by omega
     clear hc0
     go_wp2
     go_round
     case rel => exact ⟨n + 1, _, by omega, rfl, by go_num, HN, HLN.out⟩
     case measure => simp [intOf]; omega
    ·have e0 : args.take n = args := List.take_of_length_le (by omega)
     have HF := HE.out out (by rw [HW.out, e0])
     have HF0 : Hid (undo.size = 0 → wordsW out = z_a7 (outW 5 ⟨tt, nm, args, undo⟩)) := HF.1
     have HF1 : Hid (undo.size ≠ 0 → wordsW ((out ++ ⟨#[32, 117, 110, 100, 111, 32]⟩) ++ undo) = z_a7 (outW 5 ⟨tt, nm, args, undo⟩)) := HF.2
     clear HF
     by_cases hu : undo.size = 0
     ·have hq : undo = ByteArray.empty := z_bF hu
      have HF2 : Hid (wordsW out = z_a7 (outW 5 ⟨tt, nm, args, undo⟩)) := HF0.out hu
      subst hq
      clear hu
      go_wp2
      go_ret
      exact ⟨_, rfl, HB0.out, HF2.out, by omega⟩
     ·have HF2 : Hid (wordsW ((out ++ ⟨#[32, 117, 110, 100, 111, 32]⟩) ++ undo) = z_a7 (outW 5 ⟨tt, nm, args, undo⟩)) := HF1.out hu
      obtain ⟨hq, hq2⟩ := z_cs hu
      have f1 : ¬ 9223372036854775807 < out.size + 6 := by omega
      have f2 : ¬ 9223372036854775807 < out.size + 6 + undo.size := by omega
      have HL : Hid (((out ++ ⟨#[32, 117, 110, 100, 111, 32]⟩) ++ undo).size ≤ 4398046510000) := by
       show _ ≤ _; simp only [z_bU]; have hs6 : (⟨#[32, 117, 110, 100, 111, 32]⟩ : ByteArray).size = 6 := rfl; omega
      clear hu
      go_wp2
      go_ret
      exact ⟨_, rfl, HB0.out, HF2.out, HL.out⟩
end
section
open Go.RowKit
theorem z_ix (k : Nat) (hk1 : 1 ≤ k) (hk2 : k < 16) (hk5 : k ≠ 5) (hk6 : k ≠ 6) (hk8 : k ≠ 8) (tt nm undo : ByteArray) (args : List ByteArray) (ao : Option Addr) (c : Nat) (w : World) (hl : args.length ≤ 1048576) (hc : args.length ≤ c)
  (hz1 : tt.size ≤ 1048576) (hz2 : nm.size ≤ 1048576) (hz3 : undo.size ≤ 1048576) (hz4 : ∀ s ∈ args, s.size ≤ 1048576) (hi : StrsAt 0 w.heap.size w ao args) :
  Calls Tryz.prog 136 #[.agg #[.int .i64 (k : Int), .string tt, .string nm, .slice ao args.length c, .string undo]] w fun e w' => ∃ t : ByteArray, e = .returned (.string t) ∧ Below w.heap.size w w' ∧ wordsW t = z_a7 (outW (k : Int) ⟨tt, nm, args, undo⟩) ∧ t.size ≤ 4398046510000 := by
 have HI : Hid (StrsAt 0 w.heap.size w ao args) := hi
 have HZ : Hid (∀ s ∈ args, s.size ≤ 1048576) := hz4
 obtain ⟨K, HKK⟩ : ∃ K, Hid (z_a2 (k : Int) = K) := ⟨_, rfl⟩
 have hwk : K.size ≤ 8 := by rw [← HKK.out]; exact z_cJ (k : Int)
 have h1 : 1 ≤ k := hk1
 have h2 : k < 16 := hk2
 have hk16 : (k : Int) < 16 := by omega
 have hk0 : (0 : Int) ≤ k := by omega
 have k6 : ((k : Int) == 6) = false := beq_eq_false_iff_ne.2 (by omega)
 have k8 : ((k : Int) == 8) = false := beq_eq_false_iff_ne.2 (by omega)
 have k5 : ((k : Int) == 5) = false := beq_eq_false_iff_ne.2 (by omega)
 have hbr : branchK (k : Int) = false := by unfold branchK; rw [k6, k8]; rfl
 have h5 : ¬ ((k : Int) = 5 ∧ 0 < args.length) := by omega
 have H5 : Hid (¬ ((k : Int) = 5 ∧ 0 < args.length)) := h5
 clear h5 hk5 hk6 hk8 hk1 hk2
 have HE : Hid (∀ out, wordsW out = z_cA K k tt nm args ++ z_a7 args → (undo.size = 0 → wordsW out = z_a7 (outW (k : Int) ⟨tt, nm, args, undo⟩)) ∧ (undo.size ≠ 0 → wordsW ((out ++ ⟨#[32, 117, 110, 100, 111, 32]⟩) ++ undo) = z_a7 (outW (k : Int) ⟨tt, nm, args, undo⟩))) := fun out h => z_kg hbr HKK.out out h
 clear hi hz4 hbr
 go_enter Tryz.func136, Tryz.ntmps136
 go_wp2_with fail
 go_cut [3] from 5 to 9 (fun v wx => v = .string K ∧ Hid (Below w.heap.size w wx) ∧ wx.cell? ⟨w.heap.size, 0, none⟩ = some (.int .i64 (k : Int)) ∧ wx.cell? ⟨w.heap.size, 1, none⟩ = some (.string tt) ∧ wx.cell? ⟨w.heap.size, 2, none⟩ = some (.string nm) ∧ wx.cell? ⟨w.heap.size, 3, none⟩ = some (.slice ao args.length c) ∧ wx.cell? ⟨w.heap.size, 4, none⟩ = some (.string undo))
 case first =>
  go_region_with (go_at_call 137; refine (z_b1 _).mono ?_; rintro e w1 ⟨rfl, hb1, hs1⟩; have hk1 := z_d9 (k := k) (g' := w.heap.size + 1) hs1 (by simp) h1 h2 HKK.out; obtain ⟨hb2, r0, r1, r2, r3, r4⟩ := z_hw hb1; clear hb1)
  all_goals
   go_wp2_with fail
   go_meet
   case rel => exact ⟨rfl, hb2.out, r0, r1, r2, r3, r4⟩
 case rest =>
  obtain ⟨rfl, HB, r0, r1, r2, r3, r4⟩ := hcut
  have HB0 : Hid (Below w.heap.size w wc) := HB
  go_upto_block 0 with fail
  go_cut [3] from 12 to 64 (fun v wx => ∃ O : ByteArray, v = .string O ∧ wx = wc ∧ O.size ≤ 2100000 ∧ Hid (wordsW O = z_cA K k tt nm args))
  case first =>
   by_cases ht : tt.size = 0
   ·by_cases hn : nm.size = 0
    ·skip
     have ttw : Hid (wordsW tt = []) := z_cb ht
     have ttq : tt = ByteArray.empty := z_bF ht
     have nmw : Hid (wordsW nm = []) := z_cb hn
     have nmq : nm = ByteArray.empty := z_bF hn
     have HW : Hid (wordsW (K) = z_cA K k tt nm args) := by
      show _ = _
      rw [z_cA, if_neg H5.out, List.append_nil, ttw.out, nmw.out]
      simp
     have HL : Hid ((K).size ≤ 2100000) := by
      show _ ≤ _; have hs : spB.size = 1 := rfl; first | omega | (simp only [z_bU]; omega)
     subst ttq
     subst nmq
     clear ht hn
     go_wp2
     go_meet
     case rel => exact ⟨_, rfl, rfl, HL.out, HW⟩
    ·skip
     have f0 : ¬ 9223372036854775807 < K.size + 1 := by omega
     have f1 : ¬ 9223372036854775807 < K.size + 1 + nm.size := by omega
     have ttw : Hid (wordsW tt = []) := z_cb ht
     have ttq : tt = ByteArray.empty := z_bF ht
     obtain ⟨nmq, nmq2⟩ := z_cs hn
     have HW : Hid (wordsW (((K ++ spB) ++ nm)) = z_cA K k tt nm args) := by
      show _ = _
      rw [z_aP, z_cA, if_neg H5.out, List.append_nil, ttw.out]
      simp
     have HL : Hid ((((K ++ spB) ++ nm)).size ≤ 2100000) := by
      show _ ≤ _; have hs : spB.size = 1 := rfl; first | omega | (simp only [z_bU]; omega)
     subst ttq
     clear ht hn
     go_wp2
     go_meet
     case rel => exact ⟨_, rfl, rfl, HL.out, HW⟩
   ·by_cases hn : nm.size = 0
    ·skip
     have f0 : ¬ 9223372036854775807 < K.size + 1 := by omega
     have f1 : ¬ 9223372036854775807 < K.size + 1 + tt.size := by omega
     obtain ⟨ttq, ttq2⟩ := z_cs ht
     have nmw : Hid (wordsW nm = []) := z_cb hn
     have nmq : nm = ByteArray.empty := z_bF hn
     have HW : Hid (wordsW (((K ++ spB) ++ tt)) = z_cA K k tt nm args) := by
      show _ = _
      rw [z_aP, z_cA, if_neg H5.out, List.append_nil, nmw.out]
      simp
     have HL : Hid ((((K ++ spB) ++ tt)).size ≤ 2100000) := by
      show _ ≤ _; have hs : spB.size = 1 := rfl; first | omega | (simp only [z_bU]; omega)
     subst nmq
     clear ht hn
     go_wp2
     go_meet
     case rel => exact ⟨_, rfl, rfl, HL.out, HW⟩
    ·skip
     have f0 : ¬ 9223372036854775807 < K.size + 1 := by omega
     have f1 : ¬ 9223372036854775807 < K.size + 1 + tt.size := by omega
     have f2 : ¬ 9223372036854775807 < K.size + 1 + tt.size + 1 := by omega
     have f3 : ¬ 9223372036854775807 < K.size + 1 + tt.size + 1 + nm.size := by omega
     obtain ⟨ttq, ttq2⟩ := z_cs ht
     obtain ⟨nmq, nmq2⟩ := z_cs hn
     have HW : Hid (wordsW (((((K ++ spB) ++ tt) ++ spB) ++ nm)) = z_cA K k tt nm args) := by
      show _ = _
      rw [z_aP, z_aP, z_cA, if_neg H5.out, List.append_nil]
      simp
     have HL : Hid ((((((K ++ spB) ++ tt) ++ spB) ++ nm)).size ≤ 2100000) := by
      show _ ≤ _; have hs : spB.size = 1 := rfl; first | omega | (simp only [z_bU]; omega)
     clear ht hn
     go_wp2
     go_meet
     case rel => exact ⟨_, rfl, rfl, HL.out, HW⟩
  case rest =>
   obtain ⟨O, rfl, rfl, hO, HO⟩ := hcut
   go_wp2_with fail
   go_loop [3, 4] (fun v ix => ∃ (n : Nat) (out : ByteArray), n ≤ args.length ∧ v = .string out ∧ ix = .int .i64 n ∧ Hid (wordsW out = z_cA K k tt nm args ++ z_a7 (args.take n)) ∧ out.size ≤ 2100000 + n * 1048577) (fun _ ix => args.length - (intOf ix).toNat)
   case atStart => exact ⟨0, O, Nat.zero_le _, rfl, rfl, by rw [List.take_zero, z_cL, List.append_nil]; exact HO, by omega⟩
   case round =>
    obtain ⟨n, out, hn, rfl, rfl, HW, hsz⟩ := hrel
    by_cases hlt : n < args.length
    ·obtain ⟨b, off, rfl, hB, hc0⟩ := HI.out.at n hlt
     have hc1 := (HB0.out.cell (p := ⟨b, off + n, none⟩) (by show b < _; omega)).trans hc0
     have hzn := HZ.out _ (List.getElem_mem hlt)
     have HN : Hid (wordsW ((out ++ spB) ++ args[n]) = z_cA K k tt nm args ++ z_a7 (args.take (n + 1))) := z_il hlt HW.out
     have HLN : Hid (((out ++ spB) ++ args[n]).size ≤ 2100000 + (n + 1) * 1048577) := by
      show _ ≤ _; simp only [z_bU]; have hs : spB.size = 1 := rfl; omega
     have f1 : ¬ 9223372036854775807 < out.size + 1 := by omega
     have f2 : ¬ 9223372036854775807 < out.size + 1 + args[n].size := by omega
     clear hc0
     go_wp2
     go_round
     case rel => exact ⟨n + 1, _, by omega, rfl, by go_num, HN, HLN.out⟩
     case measure => simp [intOf]; omega
    ·have e0 : args.take n = args := List.take_of_length_le (by omega)
     have HF := HE.out out (by rw [HW.out, e0])
     have HF0 : Hid (undo.size = 0 → wordsW out = z_a7 (outW (k : Int) ⟨tt, nm, args, undo⟩)) := HF.1
     have HF1 : Hid (undo.size ≠ 0 → wordsW ((out ++ ⟨#[32, 117, 110, 100, 111, 32]⟩) ++ undo) = z_a7 (outW (k : Int) ⟨tt, nm, args, undo⟩)) := HF.2
     clear HF
     by_cases hu : undo.size = 0
     ·have hq : undo = ByteArray.empty := z_bF hu
      have HF2 : Hid (wordsW out = z_a7 (outW (k : Int) ⟨tt, nm, args, undo⟩)) := HF0.out hu
      subst hq
      clear hu
      go_wp2
      go_ret
      exact ⟨_, rfl, HB0.out, HF2.out, by omega⟩
     ·have HF2 : Hid (wordsW ((out ++ ⟨#[32, 117, 110, 100, 111, 32]⟩) ++ undo) = z_a7 (outW (k : Int) ⟨tt, nm, args, undo⟩)) := HF1.out hu
      obtain ⟨hq, hq2⟩ := z_cs hu
      have f1 : ¬ 9223372036854775807 < out.size + 6 := by omega
      have f2 : ¬ 9223372036854775807 < out.size + 6 + undo.size := by omega
      have HL : Hid (((out ++ ⟨#[32, 117, 110, 100, 111, 32]⟩) ++ undo).size ≤ 4398046510000) := by
       show _ ≤ _; simp only [z_bU]; have hs6 : (⟨#[32, 117, 110, 100, 111, 32]⟩ : ByteArray).size = 6 := rfl; omega
      clear hu
      go_wp2
      go_ret
      exact ⟨_, rfl, HB0.out, HF2.out, HL.out⟩
end
section
open Go.RowKit
theorem z_kt (k : Nat) (d : Bd) (ao : Option Addr) (c : Nat) (w : World) (h1 : 1 ≤ k) (h2 : k < 16) (hb : branchK (k : Int) = true → d.args.length = 2) (hl : d.args.length ≤ 1048576) (hc : d.args.length ≤ c)
  (hz1 : d.to.size ≤ 1048576) (hz2 : d.name.size ≤ 1048576) (hz3 : d.undo.size ≤ 1048576) (hz4 : ∀ s ∈ d.args, s.size ≤ 1048576) (hi : StrsAt 0 w.heap.size w ao d.args) :
  Calls Tryz.prog 136 #[.agg #[.int .i64 k, .string d.to, .string d.name, .slice ao d.args.length c, .string d.undo]] w fun e w' => ∃ t : ByteArray, e = .returned (.string t) ∧ Below w.heap.size w w' ∧ wordsW t = z_a7 (outW (k : Int) d) ∧ t.size ≤ 4398046510000 := by
 by_cases h6 : k = 6
 ·exact z_dT k d ao c w (.inl h6) (hb (by subst h6; decide)) hc hz2 hz4 hi
 by_cases h8 : k = 8
 ·exact z_dT k d ao c w (.inr h8) (hb (by subst h8; decide)) hc hz2 hz4 hi
 by_cases h5 : k = 5
 ·subst h5
  exact z_kv d.to d.name d.undo d.args ao c w hl hc hz1 hz2 hz3 hz4 hi
 exact z_ix k h1 h2 h5 h6 h8 d.to d.name d.undo d.args ao c w hl hc hz1 hz2 hz3 hz4 hi
theorem z_f3 (k : Int) (d : Bd) : z_a7 (outW k d) = z_b k d := (z_jO _).symm
end
end Go.Proofs.YtlbjjbolbopfmaaGreatDoor
