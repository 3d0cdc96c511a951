import Derived.Test.YtlbjjbolbopfmaaGreatDoorH00
import Derived.Laws.RangeAny
import Derived.Test.YtlbjjbolbopfmaaGreatDoorH01
import Derived.Lib.OthersKept
import Derived.Deep.LoopGhost
import Derived.Deep.AppendLies
import Derived.Test.YtlbjjbolbopfmaaGreatDoorH06
namespace Go.Proofs.YtlbjjbolbopfmaaGreatDoor
set_option maxHeartbeats 2000000
set_option maxRecDepth 1000000
set_option linter.unusedVariables false
section
def cutSp (s : ByteArray) : Nat → Nat → Int → List ByteArray
 | 0, _, st => if 0 ≤ st then [s.extract st.toNat s.size] else []
 | n + 1, pos, st =>
  if s.get! pos = 32 then (if 0 ≤ st then s.extract st.toNat pos :: cutSp s n (pos + 1) (-1) else cutSp s n (pos + 1) (-1))
  else cutSp s n (pos + 1) (if st < 0 then (pos : Int) else st)
def wordsW (s : ByteArray) : List ByteArray := cutSp s s.size 0 (-1)
theorem cutSp_space_out {s : ByteArray} {n pos : Nat} {st : Int} (h : s.get! pos = 32) (hs : st < 0) : cutSp s (n + 1) pos st = cutSp s n (pos + 1) (-1) := by
 rw [cutSp, if_pos h, if_neg (by omega)]
theorem cutSp_space_in {s : ByteArray} {n pos : Nat} {st : Int} (h : s.get! pos = 32) (hs : 0 ≤ st) : cutSp s (n + 1) pos st = s.extract st.toNat pos :: cutSp s n (pos + 1) (-1) := by
 rw [cutSp, if_pos h, if_pos hs]
theorem cutSp_skip {s : ByteArray} : ∀ (wd n pos : Nat) (st : Int), 0 ≤ st → (∀ j, j < wd → s.get! (pos + j) ≠ 32) → cutSp s (n + wd) pos st = cutSp s n (pos + wd) st
 | 0, _, _, _, _, _ => rfl
 | wd + 1, n, pos, st, h0, hb => by
  have h1 : s.get! pos ≠ 32 := hb 0 (by omega)
  rw [show n + (wd + 1) = (n + wd) + 1 by omega, cutSp, if_neg h1, if_neg (by omega)]
  rw [cutSp_skip wd n (pos + 1) st h0 (fun j hj => by have := hb (j + 1) (by omega); rwa [show pos + (j + 1) = pos + 1 + j by omega] at this)]
  rw [show pos + 1 + wd = pos + (wd + 1) by omega]
theorem cutSp_begin {s : ByteArray} (wd n pos : Nat) (st : Int) (h0 : st < 0) (hw : 1 ≤ wd) (hb : ∀ j, j < wd → s.get! (pos + j) ≠ 32) : cutSp s (n + wd) pos st = cutSp s n (pos + wd) pos := by
 obtain ⟨v, rfl⟩ : ∃ v, wd = v + 1 := ⟨wd - 1, by omega⟩
 have h1 : s.get! pos ≠ 32 := hb 0 (by omega)
 rw [show n + (v + 1) = (n + v) + 1 by omega, cutSp, if_neg h1, if_pos h0]
 rw [cutSp_skip v n (pos + 1) pos (by omega) (fun j hj => by have := hb (j + 1) (by omega); rwa [show pos + (j + 1) = pos + 1 + j by omega] at this)]
 rw [show pos + 1 + v = pos + (v + 1) by omega]
theorem rune_at (s : ByteArray) (pos : Nat) (h : pos < s.size) : 1 ≤ (Utf8.decode s pos).2 ∧ pos + (Utf8.decode s pos).2 ≤ s.size ∧
    (((Utf8.decode s pos).1 = 32 ∧ (Utf8.decode s pos).2 = 1 ∧ s.get! pos = 32) ∨ ((Utf8.decode s pos).1 ≠ 32 ∧ ∀ j, j < (Utf8.decode s pos).2 → s.get! (pos + j) ≠ 32)) := by
  have hg : s.get! pos = s[pos]'h := get_at s pos h
  by_cases ha : (s[pos]'h).toNat < 128
  · rw [decode_ascii s pos h ha]
    refine ⟨Nat.le_refl _, h, ?_⟩
    by_cases e : (s[pos]'h).toNat = 32
    · exact .inl ⟨e, rfl, by rw [hg]; exact UInt8.toNat.inj e⟩
    · refine .inr ⟨e, fun j hj => ?_⟩
      have : j = 0 := by simpa using hj
      subst this
      rw [Nat.add_zero, hg]
      intro e2; exact e (by rw [e2]; rfl)
  · have hh := decode_high s pos h (by omega)
    have e0 : s.get! pos ≠ 32 := by
      rw [hg]; intro e2; rw [e2] at ha; exact ha (by decide)
    have cont : ∀ k, ((decide (pos + k < s.size) && (s.get! (pos + k)).toNat / 64 == 2) = true) → pos + k < s.size ∧ s.get! (pos + k) ≠ 32 := by
      intro k hk
      simp only [Bool.and_eq_true, decide_eq_true_eq, beq_iff_eq] at hk
      refine ⟨hk.1, fun e => ?_⟩
      rw [e] at hk
      exact absurd hk.2 (by decide)
    refine ⟨hh.2, ?_, .inr ⟨by omega, ?_⟩⟩
    all_goals
      simp only [Utf8.decode, get_at s pos h, ha, if_false]
      repeat' split
    all_goals first
      | (simp_all; omega)
      | (intro j hj
         dsimp only at hj
         have hj2 : j = 0 ∨ j = 1 ∨ j = 2 ∨ j = 3 := by omega
         rcases hj2 with rfl | rfl | rfl | rfl
         · exact e0
         · first | (exfalso; omega) | exact (cont 1 (by simp only [Bool.and_eq_true] at *; simp [*])).2
         · first | (exfalso; omega) | exact (cont 2 (by simp only [Bool.and_eq_true] at *; simp [*])).2
         · first | (exfalso; omega) | exact (cont 3 (by simp only [Bool.and_eq_true] at *; simp [*])).2)
end
section
open Go.RowKit
theorem ownsRow_iterAt {w : World} {base : Nat} {e : TypeId} {size : Nat} {v : Value} {n : Nat} {xs : List Value} (h : w.ownsRow base e size v n xs) {k : Nat} (hk : k < base) (s : ByteArray) (p : Nat) : (w.iterAt k s p).ownsRow base e size v n xs := by
 obtain ⟨h1, h2⟩ := h
 refine ⟨h1, ?_⟩
 rcases h2 with h2 | ⟨g, cap, cur, a, b, c, d⟩
 ·exact .inl h2
 ·exact .inr ⟨g, cap, cur, a, b, by rw [Lib.iterAt_other _ _ _ _ _ (by omega)]; exact c, d⟩
theorem iterPos_of {w : World} {k : Nat} {s : ByteArray} {p : Nat} (h : w.heap[k]? = some (.stringIter s p)) : w.iterPos k = p := by simp [World.iterPos, h]
theorem lt_of_block' {w : World} {k : Nat} {o : Obj} (h : w.heap[k]? = some o) : k < w.heap.size := (Array.getElem?_eq_some_iff.1 h).1
theorem cell_one_new (w : World) (a : Value) (t : TypeId) : ∀ j u, [a][j]? = some u → (w.alloc (.cells #[a] t)).cell? ((⟨w.heap.size, 0, none⟩ : Addr).add j) = some u := by
 intro j u hj
 match j, hj with
 | 0, hj => simp at hj; subst hj; simp [Addr.add]
 | j + 1, hj => simp at hj
theorem splitWords_any (s : ByteArray) (w : World) (hs : s.size ≤ 4398046511000) :
    Calls Tryz.prog 123 #[.string s] w fun e w' => ∃ v, e = .returned v ∧ Below w.heap.size w w' ∧ StrsVal w.heap.size w'.heap.size w' v (wordsW s) := by
  obtain ⟨i0, hi0, hz0, hz1, hz2⟩ := info_parts Tryz.infoStr
  go_enter Tryz.func123, Tryz.ntmps123
  go_wp2
  go_loopw [3, 4] (fun v st wr => ∃ (pos fuel : Nat) (acc : List ByteArray) (x : Int), wr.heap[w.heap.size]? = some (.stringIter s pos) ∧ wr.ownsRow (w.heap.size + 1) 9 1 v acc.length (strCells acc) ∧ Below w.heap.size w wr ∧ st = .int .i64 x ∧ Hid (acc ++ cutSp s fuel pos x = wordsW s) ∧ pos + fuel = s.size ∧ acc.length ≤ pos ∧ -1 ≤ x ∧ x ≤ pos) (fun _ _ wr => s.size - wr.iterPos w.heap.size)
  case atStart => exact ⟨0, s.size, [], -1, World.iter_heap w s 0, World.ownsRow_nil _ _ _ _, (Below.refl _ _).alloc (Nat.le_refl _) _, rfl, rfl, by omega, by simp, by omega, by omega⟩
  case round =>
    obtain ⟨pos, fuel, acc, x, hit, hown, hbw, rfl, HS, hb, hlen, hx0, hx1⟩ := hrel
    have hpos0 := iterPos_of hit
    by_cases hp : pos < s.size
    · have hnx : ∀ ty, (Instr.next (.pointer (some ⟨w.heap.size, 0, none⟩)) true ty).run Tryz.prog wr = _ := fun ty => Lib.run_next_any_at wr w.heap.size s pos ty hit hp
      obtain ⟨hwd, hwe, hru⟩ := rune_at s pos hp
      have hrl := decode_le s pos
      obtain ⟨f, rfl⟩ : ∃ f, fuel = f + (Utf8.decode s pos).2 := ⟨fuel - (Utf8.decode s pos).2, by omega⟩
      have hit2 := Lib.iterAt_heap wr w.heap.size s pos (pos + (Utf8.decode s pos).2) hit
      have hbw2 := Lib.below_iterAt hbw (k := w.heap.size) (Nat.le_refl _) s (pos + (Utf8.decode s pos).2)
      have hown2 := ownsRow_iterAt hown (k := w.heap.size) (by omega) s (pos + (Utf8.decode s pos).2)
      obtain ⟨W1, hW1⟩ : ∃ W1, W1 = wr.iterAt w.heap.size s (pos + (Utf8.decode s pos).2) := ⟨_, rfl⟩
      rw [← hW1] at hnx hit2 hbw2 hown2
      have hBlt := lt_of_block' hit2
      clear hW1 hit hown hbw
      obtain ⟨r, hr⟩ : ∃ r, r = (Utf8.decode s pos).1 := ⟨_, rfl⟩
      obtain ⟨wd, hwd'⟩ : ∃ wd, wd = (Utf8.decode s pos).2 := ⟨_, rfl⟩
      rw [← hr, ← hwd'] at hru
      rw [← hr] at hrl hnx
      rw [← hwd'] at hwd hwe HS hb hit2
      clear hr hwd'
      rcases hru with ⟨rfl, rfl, hsp⟩ | ⟨hr1, hsk⟩
      · by_cases hx : 0 ≤ x
        · have HN : Hid ((acc ++ [s.extract x.toNat pos]) ++ cutSp s f (pos + 1) (-1) = wordsW s) := by
            show _ = _
            rw [← HS.out, cutSp_space_in hsp hx, List.append_assoc]; rfl
          have hx9 : ¬ x < 0 := by omega
          clear hsp
          go_wp2_with (first
            | (at_builtin; refine wpList_append_own _ rfl _ _ 45 rfl (w.heap.size + 1) 9 i0 (.string ByteArray.empty) 1 16 Tryz.underlying45 hi0 hz0 hz1 hz2 rfl (by decide) _ _ _ rfl (hown2.alloc _) ⟨W1.heap.size, 0, none⟩ 1 1 [.string (s.extract x.toNat pos)] rfl rfl (cell_one_new _ _ _) (fun u hu => by simp at hu; subst hu; rfl) (by unfold maxLen; omega) (by omega) (by simp; omega) ?_; intro v' w3 hown' hgrow3 hnil3
               have hit3 : w3.heap[w.heap.size]? = some (.stringIter s (pos + 1)) := by
                 rw [hgrow3.block w.heap.size (by simp; omega) (fun h => by have := (hown2.lt _ h.symm).1; omega), Below.heap_alloc _ _ _ hBlt]; exact hit2
               have hbw3 : Below w.heap.size w w3 := Below.grown (hbw2.alloc (by omega) _) hgrow3 (by simp; omega) (fun j hj => by have := (hown2.lt _ hj).1; omega)
               have X : Aside (w3.ownsRow (w.heap.size + 1) 9 1 v' (acc ++ [s.extract x.toNat pos]).length (strCells (acc ++ [s.extract x.toNat pos])) ∧ w3.heap[w.heap.size]? = some (.stringIter s (pos + 1)) ∧ Below w.heap.size w w3) := ⟨by simpa [strCells] using hown', hit3, hbw3⟩
               clear hown' hgrow3 hnil3 hit3 hbw3))
          go_roundw
          case rel => exact ⟨pos + 1, f, _, -1, X.out.2.1, X.out.1, X.out.2.2, rfl, HN, by omega, by simp; omega, by omega, by omega⟩
          case measure => rw [iterPos_of X.out.2.1, hpos0]; omega
        · have HN : Hid (acc ++ cutSp s f (pos + 1) (-1) = wordsW s) := by
            show _ = _
            rw [← HS.out, cutSp_space_out hsp (by omega)]
          have hx9 : x < 0 := by omega
          clear hsp
          go_wp2
          go_roundw
          case rel => exact ⟨pos + 1, f, acc, x, hit2, hown2, hbw2, rfl, (show Hid _ by rw [show x = -1 by omega]; exact HN), by omega, by omega, by omega, by omega⟩
          case measure => rw [iterPos_of hit2, hpos0]; omega
      · have hq : (((r : Nat) : Int) == 32) = false := by simp; omega
        by_cases hx : 0 ≤ x
        · have HN : Hid (acc ++ cutSp s f (pos + wd) x = wordsW s) := by
            show _ = _
            rw [← HS.out, cutSp_skip wd f pos x hx hsk]
          have hx9 : ¬ x < 0 := by omega
          clear hsk
          go_wp2
          go_roundw
          case rel => exact ⟨pos + wd, f, acc, x, hit2, hown2, hbw2, rfl, HN, by omega, by omega, by omega, by omega⟩
          case measure => rw [iterPos_of hit2, hpos0]; omega
        · have HN : Hid (acc ++ cutSp s f (pos + wd) pos = wordsW s) := by
            show _ = _
            rw [← HS.out, cutSp_begin wd f pos x (by omega) hwd hsk]
          have hx9 : x < 0 := by omega
          clear hsk
          go_wp2
          go_roundw
          case rel => exact ⟨pos + wd, f, acc, pos, hit2, hown2, hbw2, rfl, HN, by omega, by omega, by omega, by omega⟩
          case measure => rw [iterPos_of hit2, hpos0]; omega
    · have hnx : ∀ ty, (Instr.next (.pointer (some ⟨w.heap.size, 0, none⟩)) true ty).run Tryz.prog wr = _ := fun ty => Lib.run_next_end_at wr w.heap.size s pos ty hit hp
      obtain rfl : fuel = 0 := by omega
      have hBlt := lt_of_block' hit
      by_cases hx : 0 ≤ x
      · have HN : Hid (acc ++ [s.extract x.toNat s.size] = wordsW s) := by
          show _ = _
          rw [← HS.out, cutSp, if_pos hx]
        have hx1' : x ≤ s.size := by omega
        clear hit
        go_wp2_with (first
            | (at_builtin; refine wpList_append_own _ rfl _ _ 45 rfl (w.heap.size + 1) 9 i0 (.string ByteArray.empty) 1 16 Tryz.underlying45 hi0 hz0 hz1 hz2 rfl (by decide) _ _ _ rfl (hown.alloc _) ⟨wr.heap.size, 0, none⟩ 1 1 [.string (s.extract x.toNat s.size)] rfl rfl (cell_one_new _ _ _) (fun u hu => by simp at hu; subst hu; rfl) (by unfold maxLen; omega) (by omega) (by simp; omega) ?_; intro v' w3 hown' hgrow3 hnil3
               have hbw3 : Below w.heap.size w w3 := Below.grown (hbw.alloc (by omega) _) hgrow3 (by simp; omega) (fun j hj => by have := (hown.lt _ hj).1; omega)
               have X : Aside (w3.ownsRow (w.heap.size + 1) 9 1 v' (acc ++ [s.extract x.toNat s.size]).length (strCells (acc ++ [s.extract x.toNat s.size])) ∧ Below w.heap.size w w3) := ⟨by simpa [strCells] using hown', hbw3⟩
               clear hown' hgrow3 hnil3 hbw3))
        go_ret
        obtain ⟨ao, cap, e1, e2, e3⟩ := StrsAt.of_owns X.out.1
        rw [← HN.out]
        exact ⟨v', rfl, X.out.2, ao, cap, e1, e2, e3.mono (by omega) (Nat.le_refl _)⟩
      · have HN : Hid (acc = wordsW s) := by
          show _ = _
          rw [← HS.out, cutSp, if_neg hx, List.append_nil]
        go_wp2
        go_ret
        obtain ⟨ao, cap, e1, e2, e3⟩ := StrsAt.of_owns hown
        rw [← HN.out]
        exact ⟨_, rfl, hbw, ao, cap, e1, e2, e3.mono (by omega) (Nat.le_refl _)⟩
end
section
open Go.RowKit
def fillW (ms : List ByteArray) : List ByteArray := ms.filter fun s => decide (s.size ≠ 0)
theorem fillW_snoc (ms : List ByteArray) (k : Nat) (h : k < ms.length) : fillW (ms.take (k + 1)) = fillW (ms.take k) ++ fillW [ms[k]] := by
 rw [List.take_succ_eq_append_getElem h, fillW, List.filter_append]; rfl
theorem X_of {base g cap' g' W : Nat} {u : Value} {row : Option Nat} {A : List ByteArray} {x : ByteArray} {ms : List ByteArray} {w wr w3 : World} {t : TypeId} (ho : wr.ownsRow base 9 1 u A.length (strCells A)) (hb : Below base w wr)
  (hne : u.ownBlock ≠ some g) (hm : ∀ k (h : k < ms.length), wr.cell? ⟨g, k, none⟩ = some (.string (ms[k]'h))) (hws : W ≤ wr.heap.size) (hg : g < W) (hbase : base ≤ wr.heap.size)
  (hown : w3.ownsRow base 9 1 (.slice (some ⟨g', 0, none⟩) (A.length + 1) cap') (A.length + 1) (strCells A ++ [.string x])) (hgrow0 : (wr.alloc (.cells #[.string x] t)).grownBy w3 row)
  (hat0 : row = some g' ∨ g' = wr.heap.size + 1) (hrow : row = u.ownBlock) :
  Aside (w3.ownsRow base 9 1 (.slice (some ⟨g', 0, none⟩) (A.length + 1) cap') (A ++ [x]).length (strCells (A ++ [x])) ∧ Below base w w3 ∧ W ≤ w3.heap.size ∧ (Value.slice (some ⟨g', 0, none⟩) (A.length + 1) cap').ownBlock ≠ some g ∧ (∀ k (h : k < ms.length), w3.cell? ⟨g, k, none⟩ = some (.string (ms[k]'h)))) := by
 rw [hrow] at hgrow0 hat0
 have hgrow := hgrow0
 have hat := hat0
 have hbw3 : Below base w w3 := Below.grown (hb.alloc (by omega) _) hgrow (by simp; omega) (fun j hj => by have := (ho.lt _ hj).1; omega)
 refine ⟨by simpa [strCells] using hown, hbw3, ?_, ?_, ?_⟩
 ·have := hgrow.size; simp at this; omega
 ·intro h
  have h2 : g' = g := by simpa [Value.ownBlock] using h
  rcases hat with h3 | h3
  ·exact hne (by rw [h3, h2])
  ·omega
 ·intro j hj
  rw [hgrow.cell_far ⟨g, j, none⟩ (by simp; omega) (fun h => hne h.symm), Below.cell (p := ⟨g, j, none⟩) ((Below.refl _ _).alloc (Nat.le_refl _) _) (by show g < _; omega)]
  exact hm j hj
theorem addFilled_any (base g c : Nat) (v : Value) (acc ms : List ByteArray) (w : World) (hown : w.ownsRow base 9 1 v acc.length (strCells acc)) (hbase : base ≤ w.heap.size)
  (hm : ∀ k (h : k < ms.length), w.cell? ⟨g, k, none⟩ = some (.string (ms[k]'h))) (hg : g < w.heap.size) (hne : v.ownBlock ≠ some g) (hl : acc.length + ms.length ≤ 4398046511000) (hc : ms.length ≤ c) :
  Calls Tryz.prog 81 #[v, .slice (some ⟨g, 0, none⟩) ms.length c] w fun e w' => ∃ v', e = .returned v' ∧ Below base w w' ∧ w'.ownsRow base 9 1 v' (acc ++ fillW ms).length (strCells (acc ++ fillW ms)) := by
 obtain ⟨i0, hi0, hz0, hz1, hz2⟩ := info_parts Tryz.infoStr
 have HM : Hid (∀ k (h : k < ms.length), w.cell? ⟨g, k, none⟩ = some (.string (ms[k]'h))) := hm
 have HO : Hid (w.ownsRow base 9 1 v acc.length (strCells acc)) := hown
 have HNE : Hid (v.ownBlock ≠ some g) := hne
 clear hm hown hne
 go_enter Tryz.func81, Tryz.ntmps81
 go_wp2
 go_loopw [0, 9] (fun x i wr => ∃ (k : Nat), k ≤ ms.length ∧ i = .int .i64 k ∧ Hid (x.ownBlock ≠ some g) ∧ Hid (wr.ownsRow base 9 1 x (acc ++ fillW (ms.take k)).length (strCells (acc ++ fillW (ms.take k)))) ∧ Hid (Below base w wr) ∧ w.heap.size ≤ wr.heap.size ∧ Hid (∀ k (h : k < ms.length), wr.cell? ⟨g, k, none⟩ = some (.string (ms[k]'h)))) (fun _ i _ => ms.length - (intOf i).toNat)
 case atStart => exact ⟨0, Nat.zero_le _, rfl, HNE, by simpa [Hid, fillW] using HO.out, Below.refl _ _, Nat.le_refl _, HM⟩
 case round =>
  obtain ⟨k, hk, rfl, HNE1, HO1, HB1, hws, HM1⟩ := hrel
  clear HM HO HNE
  by_cases hlt : k < ms.length
  ·have hc1 := HM1.out k hlt
   have hfl : (fillW (ms.take k)).length ≤ k := Nat.le_trans (List.length_filter_le _ _) (by simp; omega)
   by_cases he : ms[k].size = 0
   ·have hq : ms[k] = ByteArray.empty := size_zero he
    have HF : Hid (fillW (ms.take (k + 1)) = fillW (ms.take k)) := by
     show _ = _; rw [fillW_snoc _ _ hlt]; simp [fillW, hq]
    rw [hq] at hc1
    clear he hq
    go_wp2
    go_roundw
    case rel => exact ⟨k + 1, by omega, by go_num, HNE1, (show Hid _ by rw [HF.out]; exact HO1), HB1, hws, HM1⟩
    case measure => simp [intOf]; omega
   ·obtain ⟨x, hx⟩ : ∃ x, x = ms[k] := ⟨_, rfl⟩
    have HF : Hid (acc ++ fillW (ms.take (k + 1)) = (acc ++ fillW (ms.take k)) ++ [x]) := by
     show _ = _; have he2 : ¬ ms[k] = ByteArray.empty := fun e => he (by rw [e]; rfl)
     rw [fillW_snoc _ _ hlt, hx, List.append_assoc]; simp [fillW, he2]
    have hq : x.toList.isEmpty = false := by rw [isEmpty_toList, hx]; simpa using he
    have hq2 : (x.toList == []) = false := by rw [← hq]; cases x.toList <;> rfl
    rw [← hx] at hc1
    clear he hx
    have hfl2 : (acc ++ fillW (ms.take k)).length ≤ acc.length + ms.length := by simp; omega
    obtain ⟨A, hA⟩ : ∃ A, A = acc ++ fillW (ms.take k) := ⟨_, rfl⟩
    rw [← hA] at HO1 HF hfl2
    clear hA
    go_wp2_with (at_builtin; refine wpList_append_lies _ rfl _ _ 45 rfl base 9 i0 (.string ByteArray.empty) 1 16 Tryz.underlying45 hi0 hz0 hz1 hz2 rfl (by decide) _ _ _ rfl (HO1.out.alloc _) ⟨wr.heap.size, 0, none⟩ 1 1 [.string x] rfl rfl (cell_one_new _ _ _) (fun u hu => by simp at hu; subst hu; rfl) (by decide) (by unfold maxLen; omega) (by omega) (by simp; omega) (wr.heap.size + 1) (by simp) ?_; intro g' cap' w3 hown' hgrow3 hat3 hlt3; have X := X_of HO1.out HB1.out HNE1.out HM1.out hws hg (by omega) hown' hgrow3 hat3 (by rfl); clear hown' hgrow3 hat3 hlt3)
    go_roundw
    case rel => exact ⟨k + 1, by omega, by go_num, X.out.2.2.2.1, (show Hid _ by rw [HF.out]; exact X.out.1), X.out.2.1, X.out.2.2.1, X.out.2.2.2.2⟩
    case measure => simp [intOf]; omega
  ·have e0 : ms.take k = ms := List.take_of_length_le (by omega)
   rw [e0] at HO1
   go_wp2
   go_ret
   exact ⟨_, rfl, HB1.out, HO1.out⟩
end
section
open Go.RowKit
theorem cell_two_new (w : World) (a b : Value) (t : TypeId) : ∀ j u, [a, b][j]? = some u → (w.alloc (.cells #[a, b] t)).cell? ((⟨w.heap.size, 0, none⟩ : Addr).add j) = some u := by
 intro j u hj
 match j, hj with
 | 0, hj => simp at hj; subst hj; simp [Addr.add]
 | 1, hj => simp at hj; subst hj; simp [Addr.add]
 | j + 2, hj => simp at hj
def undoS : ByteArray := ⟨#[117, 110, 100, 111]⟩
def undoW (u : ByteArray) : List ByteArray := if u.size = 0 then [] else [undoS, u]
theorem grown_of {base n : Nat} {u : Value} {row : Option Nat} {A : List Value} {w wr w2 w3 : World} (ho : wr.ownsRow base 9 1 u n A) (hb : Below base w wr) (h2 : Below wr.heap.size wr w2) (hbase : base ≤ wr.heap.size)
  (hgrow : w2.grownBy w3 row) (hrow : row = u.ownBlock) : Below base w w3 :=
 Below.grown (hb.trans (h2.mono hbase)) hgrow (by have := h2.size; omega) (fun j hj => by rw [hrow] at hj; exact (ho.lt _ hj).1)
theorem addUndo_any (base : Nat) (v : Value) (acc : List ByteArray) (s : ByteArray) (w : World) (hown : w.ownsRow base 9 1 v acc.length (strCells acc)) (hbase : base ≤ w.heap.size) (hl : acc.length ≤ 4398046511000) :
  Calls Tryz.prog 82 #[v, .string s] w fun e w' => ∃ v', e = .returned v' ∧ Below base w w' ∧ w'.ownsRow base 9 1 v' (acc ++ undoW s).length (strCells (acc ++ undoW s)) := by
 obtain ⟨i0, hi0, hz0, hz1, hz2⟩ := info_parts Tryz.infoStr
 have HO : Hid (w.ownsRow base 9 1 v acc.length (strCells acc)) := hown
 clear hown
 by_cases hs : s.size = 0
 ·have HN : Hid (acc ++ undoW s = acc) := by simp [Hid, undoW, hs]
  have hq : s.toList.isEmpty = true := by rw [isEmpty_toList]; simpa using hs
  have hq2 : (s.toList == []) = true := by rw [← hq]; cases s.toList <;> rfl
  clear hs
  go_enter Tryz.func82, Tryz.ntmps82
  go_wp2
  go_ret
  exact ⟨_, rfl, Below.refl _ _, by rw [HN.out]; exact HO.out⟩
 ·have HN : Hid (acc ++ undoW s = acc ++ [undoS, s]) := by simp only [Hid, undoW]; rw [if_neg hs]
  have hq : s.toList.isEmpty = false := by rw [isEmpty_toList]; simpa using hs
  have hq2 : (s.toList == []) = false := by rw [← hq]; cases s.toList <;> rfl
  clear hs
  go_enter Tryz.func82, Tryz.ntmps82
  go_wp2_with (at_builtin; refine wpList_append_own _ rfl _ _ 45 rfl base 9 i0 (.string ByteArray.empty) 1 16 Tryz.underlying45 hi0 hz0 hz1 hz2 rfl (by decide) _ _ _ rfl (HO.out.alloc _) ⟨w.heap.size, 0, none⟩ 2 2 [.string undoS, .string s] rfl rfl (cell_two_new _ _ _ _) (fun u hu => by simp at hu; rcases hu with rfl | rfl <;> rfl) (by unfold maxLen; omega) (by omega) (by simp; omega) ?_; intro v' w3 hown' hgrow3 hnil3; have hb3 := grown_of HO.out (Below.refl _ _) ((Below.refl _ _).alloc (Nat.le_refl _) _) hbase hgrow3 (by rfl); have X : Aside (w3.ownsRow base 9 1 v' (acc ++ [undoS, s]).length (strCells (acc ++ [undoS, s])) ∧ Below base w w3) := ⟨by simpa [strCells] using hown', hb3⟩; clear hown' hgrow3 hnil3 hb3)
  go_ret
  exact ⟨_, rfl, X.out.2, by rw [HN.out]; exact X.out.1⟩
def branchK (k : Int) : Bool := k == 6 || k == 8
theorem isBranch_any (k : Int) (a b c d : Value) (w : World) : Calls Tryz.prog 121 #[.agg #[.int .i64 k, a, b, c, d]] w fun e w' => e = .returned (.bool (branchK k)) ∧ Below w.heap.size w w' := by
 go_enter Tryz.func121, Tryz.ntmps121
 go_wp2
 all_goals
  go_ret
  exact ⟨by simp only [branchK, *] <;> rfl, (Below.refl _ _).alloc (Nat.le_refl _) _⟩
end
section
def forS : ByteArray := ⟨#[102, 111, 114]⟩
def outW (k : Int) (d : Bd) : List ByteArray :=
 if branchK k = true then [wordK k, d.args.getD 0 eS, d.name, d.args.getD 1 eS]
 else (wordK k :: fillW [d.to, d.name]) ++ (if k = 5 ∧ 0 < d.args.length then [forS] else []) ++ d.args ++ undoW d.undo
def joinW (ws : List ByteArray) : ByteArray := ⟨(Lib.join (ws.map (·.data.toList)) [32]).toArray⟩
theorem joinTail_len (M : Nat) : ∀ ws : List ByteArray, (∀ s ∈ ws, s.size ≤ M) → (Lib.joinTail [32] (ws.map (·.data.toList))).length ≤ ws.length * (M + 1)
 | [], _ => by simp [Lib.joinTail]
 | a :: r, h => by
  have h1 := h a (by simp)
  have h2 := joinTail_len M r (fun s hs => h s (by simp [hs]))
  simp only [Lib.joinTail, List.map_cons, List.flatten_cons, List.length_append, List.length_cons, List.length_nil] at h2 ⊢
  have e : a.data.toList.length = a.size := by simp
  rw [e, Nat.add_mul r.length 1, Nat.one_mul]
  omega
theorem join_len (M : Nat) (ws : List ByteArray) (h : ∀ s ∈ ws, s.size ≤ M) : (Lib.join (ws.map (·.data.toList)) [32]).length ≤ ws.length * (M + 1) := by
 match ws, h with
 | [], _ => simp [Lib.join_nil]
 | a :: r, h =>
  have h1 := h a (by simp)
  have h2 := joinTail_len M r (fun s hs => h s (by simp [hs]))
  have e : a.data.toList.length = a.size := by simp
  rw [List.map_cons, Lib.join_cons, List.length_append, e, List.length_cons, Nat.add_mul r.length 1, Nat.one_mul]
  omega
theorem size_if {c : Prop} {_ : Decidable c} (n : Nat) {a b : ByteArray} (ha : a.size ≤ n) (hb : b.size ≤ n) : (if c then a else b).size ≤ n := by split <;> assumption
theorem wordK_size (k : Int) : (wordK k).size ≤ 8 := size_if _ (by decide) (size_if _ (by decide) (size_if _ (by decide) (size_if _ (by decide) (size_if _ (by decide) (size_if _ (by decide) (size_if _ (by decide) (size_if _ (by decide) (size_if _ (by decide) (size_if _ (by decide) (size_if _ (by decide) (size_if _ (by decide) (size_if _ (by decide) (size_if _ (by decide) (size_if _ (by decide) (by decide)))))))))))))))
theorem fillW_le (ms : List ByteArray) : (fillW ms).length ≤ ms.length := List.length_filter_le _ _
theorem undoW_le (u : ByteArray) : (undoW u).length ≤ 2 := by rw [undoW]; split <;> simp
end
end Go.Proofs.YtlbjjbolbopfmaaGreatDoor
