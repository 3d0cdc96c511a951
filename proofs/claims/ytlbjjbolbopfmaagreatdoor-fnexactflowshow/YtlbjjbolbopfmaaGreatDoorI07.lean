import Derived.Test.YtlbjjbolbopfmaaGreatDoorI06
import Derived.Test.YtlbjjbolbopfmaaGreatDoorI01
import Derived.Lib.OthersKept
import Derived.Deep.LoopGhost
import Derived.Deep.AppendLies
namespace Go.Proofs.YtlbjjbolbopfmaaGreatDoor
set_option maxHeartbeats 2000000
set_option maxRecDepth 1000000
set_option linter.unusedVariables false
section
open Go.RowKit
theorem z_fN {w : World} {base : Nat} {e : TypeId} {size : Nat} {v : Value} {n : Nat} {xs : List Value} (h : w.ownsRow base e size v n xs) {k : Nat} (hk : k < base) (s : ByteArray) (p : Nat) : (w.iterAt k s p).ownsRow base e size v n xs := by
 obtain ⟨h1, h2⟩ := h
 refine ⟨h1, ?_⟩
 rcases h2 with h2 | ⟨g, cap, cur, a, b, c, d⟩
 ·exact .inl h2
 ·exact .inr ⟨g, cap, cur, a, b, by rw [Lib.iterAt_other _ _ _ _ _ (by omega)]; exact c, d⟩
theorem z_cG {w : World} {k : Nat} {s : ByteArray} {p : Nat} (h : w.heap[k]? = some (.stringIter s p)) : w.iterPos k = p := by simp [World.iterPos, h]
theorem z_ek {w : World} {k : Nat} {o : Obj} (h : w.heap[k]? = some o) : k < w.heap.size := (Array.getElem?_eq_some_iff.1 h).1
theorem cell_one_new (w : World) (a : Value) (t : TypeId) : ∀ j u, [a][j]? = some u → (w.alloc (.cells #[a] t)).cell? ((⟨w.heap.size, 0, none⟩ : Addr).add j) = some u := by
 intro j u hj
 match j, hj with
 | 0, hj => simp at hj; subst hj; simp [Addr.add]
 | j + 1, hj => simp at hj
theorem splitWords_any (s : ByteArray) (w : World) (hs : s.size ≤ 4398046511000) :
    Calls Tryz.prog 123 #[.string s] w fun e w' => ∃ v, e = .returned v ∧ Below w.heap.size w w' ∧ z_be w.heap.size w'.heap.size w' v (wordsW s) := by
  obtain ⟨i0, hi0, hz0, hz1, hz2⟩ := info_parts Tryz.infoStr
  go_enter Tryz.func123, Tryz.ntmps123
  go_wp2
  go_loopw [3, 4] (fun v st wr => ∃ (pos fuel : Nat) (acc : List ByteArray) (x : Int), wr.heap[w.heap.size]? = some (.stringIter s pos) ∧ wr.ownsRow (w.heap.size + 1) 9 1 v acc.length (strCells acc) ∧ Below w.heap.size w wr ∧ st = .int .i64 x ∧ Hid (acc ++ cutSp s fuel pos x = wordsW s) ∧ pos + fuel = s.size ∧ acc.length ≤ pos ∧ -1 ≤ x ∧ x ≤ pos) (fun _ _ wr => s.size - wr.iterPos w.heap.size)
  case atStart => exact ⟨0, s.size, [], -1, World.iter_heap w s 0, World.ownsRow_nil _ _ _ _, (Below.refl _ _).alloc (Nat.le_refl _) _, rfl, rfl, by omega, by simp, by omega, by omega⟩
  case round =>
    obtain ⟨pos, fuel, acc, x, hit, hown, hbw, rfl, HS, hb, hlen, hx0, hx1⟩ := hrel
    have hpos0 := z_cG hit
    by_cases hp : pos < s.size
    · have hnx : ∀ ty, (Instr.next (.pointer (some ⟨w.heap.size, 0, none⟩)) true ty).run Tryz.prog wr = _ := fun ty => Lib.run_next_any_at wr w.heap.size s pos ty hit hp
      obtain ⟨hwd, hwe, hru⟩ := rune_at s pos hp
      have hrl := decode_le s pos
      obtain ⟨f, rfl⟩ : ∃ f, fuel = f + (Utf8.decode s pos).2 := ⟨fuel - (Utf8.decode s pos).2, by omega⟩
      have hit2 := Lib.iterAt_heap wr w.heap.size s pos (pos + (Utf8.decode s pos).2) hit
      have hbw2 := Lib.below_iterAt hbw (k := w.heap.size) (Nat.le_refl _) s (pos + (Utf8.decode s pos).2)
      have hown2 := z_fN hown (k := w.heap.size) (by omega) s (pos + (Utf8.decode s pos).2)
      obtain ⟨W1, hW1⟩ : ∃ W1, W1 = wr.iterAt w.heap.size s (pos + (Utf8.decode s pos).2) := ⟨_, rfl⟩
      rw [← hW1] at hnx hit2 hbw2 hown2
      have hBlt := z_ek hit2
      clear hW1 hit hown hbw
      obtain ⟨r, hr⟩ : ∃ r, r = (Utf8.decode s pos).1 := ⟨_, rfl⟩
      obtain ⟨wd, hwd'⟩ : ∃ wd, wd = (Utf8.decode s pos).2 := ⟨_, rfl⟩
      rw [← hr, ← hwd'] at hru
      rw [← hr] at hrl hnx
      rw [← hwd'] at hwd hwe HS hb hit2
      clear hr hwd'
      rcases hru with ⟨rfl, rfl, hsp⟩ | ⟨hr1, hsk⟩
      · by_cases hx : 0 ≤ x
        · have HN : Hid ((acc ++ [s.extract x.toNat pos]) ++ cutSp s f (pos + 1) (-1) = wordsW s) := by
            show _ = _
            rw [← HS.out, z_fI hsp hx, List.append_assoc]; rfl
          have hx9 : ¬ x < 0 := by omega
          clear hsp
          go_wp2_with (first
            | (at_builtin; refine wpList_append_own _ rfl _ _ 45 rfl (w.heap.size + 1) 9 i0 (.string ByteArray.empty) 1 16 Tryz.underlying45 hi0 hz0 hz1 hz2 rfl (by decide) _ _ _ rfl (hown2.alloc _) ⟨W1.heap.size, 0, none⟩ 1 1 [.string (s.extract x.toNat pos)] rfl rfl (cell_one_new _ _ _) (fun u hu => by simp at hu; subst hu; rfl) (by unfold maxLen; omega) (by omega) (by simp; omega) ?_; intro v' w3 hown' hgrow3 hnil3
               have hit3 : w3.heap[w.heap.size]? = some (.stringIter s (pos + 1)) := by
                 rw [hgrow3.block w.heap.size (by simp; omega) (fun h => by have := (hown2.lt _ h.symm).1; omega), Below.heap_alloc _ _ _ hBlt]; exact hit2
               have hbw3 : Below w.heap.size w w3 := Below.grown (hbw2.alloc (by omega) _) hgrow3 (by simp; omega) (fun j hj => by have := (hown2.lt _ hj).1; omega)
               have X : Aside (w3.ownsRow (w.heap.size + 1) 9 1 v' (acc ++ [s.extract x.toNat pos]).length (strCells (acc ++ [s.extract x.toNat pos])) ∧ w3.heap[w.heap.size]? = some (.stringIter s (pos + 1)) ∧ Below w.heap.size w w3) := ⟨by simpa [strCells] using hown', hit3, hbw3⟩
               clear hown' hgrow3 hnil3 hit3 hbw3))
          go_roundw
          case rel => exact ⟨pos + 1, f, _, -1, X.out.2.1, X.out.1, X.out.2.2, rfl, HN, by omega, by simp; omega, by omega, by omega⟩
          case measure => rw [z_cG X.out.2.1, hpos0]; omega
        · have HN : Hid (acc ++ cutSp s f (pos + 1) (-1) = wordsW s) := by
            show _ = _
            rw [← HS.out, z_eY hsp (by omega)]
          have hx9 : x < 0 := by omega
          clear hsp
          go_wp2
          go_roundw
          case rel => exact ⟨pos + 1, f, acc, x, hit2, hown2, hbw2, rfl, (show Hid _ by rw [show x = -1 by omega]; exact HN), by omega, by omega, by omega, by omega⟩
          case measure => rw [z_cG hit2, hpos0]; omega
      · have hq : (((r : Nat) : Int) == 32) = false := by simp; omega
        by_cases hx : 0 ≤ x
        · have HN : Hid (acc ++ cutSp s f (pos + wd) x = wordsW s) := by
            show _ = _
            rw [← HS.out, z_ef wd f pos x hx hsk]
          have hx9 : ¬ x < 0 := by omega
          clear hsk
          go_wp2
          go_roundw
          case rel => exact ⟨pos + wd, f, acc, x, hit2, hown2, hbw2, rfl, HN, by omega, by omega, by omega, by omega⟩
          case measure => rw [z_cG hit2, hpos0]; omega
        · have HN : Hid (acc ++ cutSp s f (pos + wd) pos = wordsW s) := by
            show _ = _
            rw [← HS.out, z_jL wd f pos x (by omega) hwd hsk]
          have hx9 : x < 0 := by omega
          clear hsk
          go_wp2
          go_roundw
          case rel => exact ⟨pos + wd, f, acc, pos, hit2, hown2, hbw2, rfl, HN, by omega, by omega, by omega, by omega⟩
          case measure => rw [z_cG hit2, hpos0]; omega
    · have hnx : ∀ ty, (Instr.next (.pointer (some ⟨w.heap.size, 0, none⟩)) true ty).run Tryz.prog wr = _ := fun ty => Lib.run_next_end_at wr w.heap.size s pos ty hit hp
      obtain rfl : fuel = 0 := by omega
      have hBlt := z_ek hit
      by_cases hx : 0 ≤ x
      · have HN : Hid (acc ++ [s.extract x.toNat s.size] = wordsW s) := by
          show _ = _
          rw [← HS.out, cutSp, if_pos hx]
        have hx1' : x ≤ s.size := by omega
        clear hit
        go_wp2_with (first
            | (at_builtin; refine wpList_append_own _ rfl _ _ 45 rfl (w.heap.size + 1) 9 i0 (.string ByteArray.empty) 1 16 Tryz.underlying45 hi0 hz0 hz1 hz2 rfl (by decide) _ _ _ rfl (hown.alloc _) ⟨wr.heap.size, 0, none⟩ 1 1 [.string (s.extract x.toNat s.size)] rfl rfl (cell_one_new _ _ _) (fun u hu => by simp at hu; subst hu; rfl) (by unfold maxLen; omega) (by omega) (by simp; omega) ?_; intro v' w3 hown' hgrow3 hnil3
               have hbw3 : Below w.heap.size w w3 := Below.grown (hbw.alloc (by omega) _) hgrow3 (by simp; omega) (fun j hj => by have := (hown.lt _ hj).1; omega)
               have X : Aside (w3.ownsRow (w.heap.size + 1) 9 1 v' (acc ++ [s.extract x.toNat s.size]).length (strCells (acc ++ [s.extract x.toNat s.size])) ∧ Below w.heap.size w w3) := ⟨by simpa [strCells] using hown', hbw3⟩
               clear hown' hgrow3 hnil3 hbw3))
        go_ret
        obtain ⟨ao, cap, e1, e2, e3⟩ := StrsAt.of_owns X.out.1
        rw [← HN.out]
        exact ⟨v', rfl, X.out.2, ao, cap, e1, e2, e3.mono (by omega) (Nat.le_refl _)⟩
      · have HN : Hid (acc = wordsW s) := by
          show _ = _
          rw [← HS.out, cutSp, if_neg hx, List.append_nil]
        go_wp2
        go_ret
        obtain ⟨ao, cap, e1, e2, e3⟩ := StrsAt.of_owns hown
        rw [← HN.out]
        exact ⟨_, rfl, hbw, ao, cap, e1, e2, e3.mono (by omega) (Nat.le_refl _)⟩
end
section
open Go.RowKit
def z_ax (ms : List ByteArray) : List ByteArray := ms.filter fun s => decide (s.size ≠ 0)
theorem z_dh (ms : List ByteArray) (k : Nat) (h : k < ms.length) : z_ax (ms.take (k + 1)) = z_ax (ms.take k) ++ z_ax [ms[k]] := by
 rw [List.take_succ_eq_append_getElem h, z_ax, List.filter_append]; rfl
theorem X_of {base g cap' g' W : Nat} {u : Value} {row : Option Nat} {A : List ByteArray} {x : ByteArray} {ms : List ByteArray} {w wr w3 : World} {t : TypeId} (ho : wr.ownsRow base 9 1 u A.length (strCells A)) (hb : Below base w wr)
  (hne : u.ownBlock ≠ some g) (hm : ∀ k (h : k < ms.length), wr.cell? ⟨g, k, none⟩ = some (.string (ms[k]'h))) (hws : W ≤ wr.heap.size) (hg : g < W) (hbase : base ≤ wr.heap.size)
  (hown : w3.ownsRow base 9 1 (.slice (some ⟨g', 0, none⟩) (A.length + 1) cap') (A.length + 1) (strCells A ++ [.string x])) (hgrow0 : (wr.alloc (.cells #[.string x] t)).grownBy w3 row)
  (hat0 : row = some g' ∨ g' = wr.heap.size + 1) (hrow : row = u.ownBlock) :
  Aside (w3.ownsRow base 9 1 (.slice (some ⟨g', 0, none⟩) (A.length + 1) cap') (A ++ [x]).length (strCells (A ++ [x])) ∧ Below base w w3 ∧ W ≤ w3.heap.size ∧ (Value.slice (some ⟨g', 0, none⟩) (A.length + 1) cap').ownBlock ≠ some g ∧ (∀ k (h : k < ms.length), w3.cell? ⟨g, k, none⟩ = some (.string (ms[k]'h)))) := by
 rw [hrow] at hgrow0 hat0
 have hgrow := hgrow0
 have hat := hat0
 have hbw3 : Below base w w3 := Below.grown (hb.alloc (by omega) _) hgrow (by simp; omega) (fun j hj => by have := (ho.lt _ hj).1; omega)
 refine ⟨by simpa [strCells] using hown, hbw3, ?_, ?_, ?_⟩
 ·have := hgrow.size; simp at this; omega
 ·intro h
  have h2 : g' = g := by simpa [Value.ownBlock] using h
  rcases hat with h3 | h3
  ·exact hne (by rw [h3, h2])
  ·omega
 ·intro j hj
  rw [hgrow.cell_far ⟨g, j, none⟩ (by simp; omega) (fun h => hne h.symm), Below.cell (p := ⟨g, j, none⟩) ((Below.refl _ _).alloc (Nat.le_refl _) _) (by show g < _; omega)]
  exact hm j hj
theorem z_dN (base g c : Nat) (v : Value) (acc ms : List ByteArray) (w : World) (hown : w.ownsRow base 9 1 v acc.length (strCells acc)) (hbase : base ≤ w.heap.size)
  (hm : ∀ k (h : k < ms.length), w.cell? ⟨g, k, none⟩ = some (.string (ms[k]'h))) (hg : g < w.heap.size) (hne : v.ownBlock ≠ some g) (hl : acc.length + ms.length ≤ 4398046511000) (hc : ms.length ≤ c) :
  Calls Tryz.prog 81 #[v, .slice (some ⟨g, 0, none⟩) ms.length c] w fun e w' => ∃ v', e = .returned v' ∧ Below base w w' ∧ w'.ownsRow base 9 1 v' (acc ++ z_ax ms).length (strCells (acc ++ z_ax ms)) := by
 obtain ⟨i0, hi0, hz0, hz1, hz2⟩ := info_parts Tryz.infoStr
 have HM : Hid (∀ k (h : k < ms.length), w.cell? ⟨g, k, none⟩ = some (.string (ms[k]'h))) := hm
 have HO : Hid (w.ownsRow base 9 1 v acc.length (strCells acc)) := hown
 have HNE : Hid (v.ownBlock ≠ some g) := hne
 clear hm hown hne
 go_enter Tryz.func81, Tryz.ntmps81
 go_wp2
 go_loopw [0, 9] (fun x i wr => ∃ (k : Nat), k ≤ ms.length ∧ i = .int .i64 k ∧ Hid (x.ownBlock ≠ some g) ∧ Hid (wr.ownsRow base 9 1 x (acc ++ z_ax (ms.take k)).length (strCells (acc ++ z_ax (ms.take k)))) ∧ Hid (Below base w wr) ∧ w.heap.size ≤ wr.heap.size ∧ Hid (∀ k (h : k < ms.length), wr.cell? ⟨g, k, none⟩ = some (.string (ms[k]'h)))) (fun _ i _ => ms.length - (intOf i).toNat)
 case atStart => exact ⟨0, Nat.zero_le _, rfl, HNE, by simpa [Hid, z_ax] using HO.out, Below.refl _ _, Nat.le_refl _, HM⟩
 case round =>
  obtain ⟨k, hk, rfl, HNE1, HO1, HB1, hws, HM1⟩ := hrel
  clear HM HO HNE
  by_cases hlt : k < ms.length
  ·have hc1 := HM1.out k hlt
   have hfl : (z_ax (ms.take k)).length ≤ k := Nat.le_trans (List.length_filter_le _ _) (by simp; omega)
   by_cases he : ms[k].size = 0
   ·have hq : ms[k] = ByteArray.empty := z_bF he
    have HF : Hid (z_ax (ms.take (k + 1)) = z_ax (ms.take k)) := by
     show _ = _; rw [z_dh _ _ hlt]; simp [z_ax, hq]
    rw [hq] at hc1
    clear he hq
    go_wp2
    go_roundw
    case rel => exact ⟨k + 1, by omega, by go_num, HNE1, (show Hid _ by rw [HF.out]; exact HO1), HB1, hws, HM1⟩
    case measure => simp [intOf]; omega
   ·obtain ⟨x, hx⟩ : ∃ x, x = ms[k] := ⟨_, rfl⟩
    have HF : Hid (acc ++ z_ax (ms.take (k + 1)) = (acc ++ z_ax (ms.take k)) ++ [x]) := by
     show _ = _; have he2 : ¬ ms[k] = ByteArray.empty := fun e => he (by rw [e]; rfl)
     rw [z_dh _ _ hlt, hx, List.append_assoc]; simp [z_ax, he2]
    have hq : x.toList.isEmpty = false := by rw [z_av, hx]; simpa using he
    have hq2 : (x.toList == []) = false := by rw [← hq]; cases x.toList <;> rfl
    rw [← hx] at hc1
    clear he hx
    have hfl2 : (acc ++ z_ax (ms.take k)).length ≤ acc.length + ms.length := by simp; omega
    obtain ⟨A, hA⟩ : ∃ A, A = acc ++ z_ax (ms.take k) := ⟨_, rfl⟩
    rw [← hA] at HO1 HF hfl2
    clear hA
    go_wp2_with (at_builtin; refine wpList_append_lies _ rfl _ _ 45 rfl base 9 i0 (.string ByteArray.empty) 1 16 Tryz.underlying45 hi0 hz0 hz1 hz2 rfl (by decide) _ _ _ rfl (HO1.out.alloc _) ⟨wr.heap.size, 0, none⟩ 1 1 [.string x] rfl rfl (cell_one_new _ _ _) (fun u hu => by simp at hu; subst hu; rfl) (by decide) (by unfold maxLen; omega) (by omega) (by simp; omega) (wr.heap.size + 1) (by simp) ?_; intro g' cap' w3 hown' hgrow3 hat3 hlt3; have X := X_of HO1.out HB1.out HNE1.out HM1.out hws hg (by omega) hown' hgrow3 hat3 (by rfl); clear hown' hgrow3 hat3 hlt3)
    go_roundw
    case rel => exact ⟨k + 1, by omega, by go_num, X.out.2.2.2.1, (show Hid _ by rw [HF.out]; exact X.out.1), X.out.2.1, X.out.2.2.1, X.out.2.2.2.2⟩
    case measure => simp [intOf]; omega
  ·have e0 : ms.take k = ms := List.take_of_length_le (by omega)
   rw [e0] at HO1
   go_wp2
   go_ret
   exact ⟨_, rfl, HB1.out, HO1.out⟩
end
section
open Go.RowKit
theorem z_iA (w : World) (a b : Value) (t : TypeId) : ∀ j u, [a, b][j]? = some u → (w.alloc (.cells #[a, b] t)).cell? ((⟨w.heap.size, 0, none⟩ : Addr).add j) = some u := by
 intro j u hj
 match j, hj with
 | 0, hj => simp at hj; subst hj; simp [Addr.add]
 | 1, hj => simp at hj; subst hj; simp [Addr.add]
 | j + 2, hj => simp at hj
def z_ex : ByteArray := ⟨#[117, 110, 100, 111]⟩
def z_co (u : ByteArray) : List ByteArray := if u.size = 0 then [] else [z_ex, u]
theorem z_b7 {base n : Nat} {u : Value} {row : Option Nat} {A : List Value} {w wr w2 w3 : World} (ho : wr.ownsRow base 9 1 u n A) (hb : Below base w wr) (h2 : Below wr.heap.size wr w2) (hbase : base ≤ wr.heap.size)
  (hgrow : w2.grownBy w3 row) (hrow : row = u.ownBlock) : Below base w w3 :=
 Below.grown (hb.trans (h2.mono hbase)) hgrow (by have := h2.size; omega) (fun j hj => by rw [hrow] at hj; exact (ho.lt _ hj).1)
theorem z_bL (base : Nat) (v : Value) (acc : List ByteArray) (s : ByteArray) (w : World) (hown : w.ownsRow base 9 1 v acc.length (strCells acc)) (hbase : base ≤ w.heap.size) (hl : acc.length ≤ 4398046511000) :
  Calls Tryz.prog 82 #[v, .string s] w fun e w' => ∃ v', e = .returned v' ∧ Below base w w' ∧ w'.ownsRow base 9 1 v' (acc ++ z_co s).length (strCells (acc ++ z_co s)) := by
 obtain ⟨i0, hi0, hz0, hz1, hz2⟩ := info_parts Tryz.infoStr
 have HO : Hid (w.ownsRow base 9 1 v acc.length (strCells acc)) := hown
 clear hown
 by_cases hs : s.size = 0
 ·have HN : Hid (acc ++ z_co s = acc) := by simp [Hid, z_co, hs]
  have hq : s.toList.isEmpty = true := by rw [z_av]; simpa using hs
  have hq2 : (s.toList == []) = true := by rw [← hq]; cases s.toList <;> rfl
  clear hs
  go_enter Tryz.func82, Tryz.ntmps82
  go_wp2
  go_ret
  exact ⟨_, rfl, Below.refl _ _, by rw [HN.out]; exact HO.out⟩
 ·have HN : Hid (acc ++ z_co s = acc ++ [z_ex, s]) := by simp only [Hid, z_co]; rw [if_neg hs]
  have hq : s.toList.isEmpty = false := by rw [z_av]; simpa using hs
  have hq2 : (s.toList == []) = false := by rw [← hq]; cases s.toList <;> rfl
  clear hs
  go_enter Tryz.func82, Tryz.ntmps82
  go_wp2_with (at_builtin; refine wpList_append_own _ rfl _ _ 45 rfl base 9 i0 (.string ByteArray.empty) 1 16 Tryz.underlying45 hi0 hz0 hz1 hz2 rfl (by decide) _ _ _ rfl (HO.out.alloc _) ⟨w.heap.size, 0, none⟩ 2 2 [.string z_ex, .string s] rfl rfl (z_iA _ _ _ _) (fun u hu => by simp at hu; rcases hu with rfl | rfl <;> rfl) (by unfold maxLen; omega) (by omega) (by simp; omega) ?_; intro v' w3 hown' hgrow3 hnil3; have hb3 := z_b7 HO.out (Below.refl _ _) ((Below.refl _ _).alloc (Nat.le_refl _) _) hbase hgrow3 (by rfl); have X : Aside (w3.ownsRow base 9 1 v' (acc ++ [z_ex, s]).length (strCells (acc ++ [z_ex, s])) ∧ Below base w w3) := ⟨by simpa [strCells] using hown', hb3⟩; clear hown' hgrow3 hnil3 hb3)
  go_ret
  exact ⟨_, rfl, X.out.2, by rw [HN.out]; exact X.out.1⟩
def branchK (k : Int) : Bool := k == 6 || k == 8
theorem z_cx (k : Int) (a b c d : Value) (w : World) : Calls Tryz.prog 121 #[.agg #[.int .i64 k, a, b, c, d]] w fun e w' => e = .returned (.bool (branchK k)) ∧ Below w.heap.size w w' := by
 go_enter Tryz.func121, Tryz.ntmps121
 go_wp2
 all_goals
  go_ret
  exact ⟨by simp only [branchK, *] <;> rfl, (Below.refl _ _).alloc (Nat.le_refl _) _⟩
end
section
def forS : ByteArray := ⟨#[102, 111, 114]⟩
def outW (k : Int) (d : Bd) : List ByteArray :=
 if branchK k = true then [z_a2 k, d.args.getD 0 eS, d.name, d.args.getD 1 eS]
 else (z_a2 k :: z_ax [d.to, d.name]) ++ (if k = 5 ∧ 0 < d.args.length then [forS] else []) ++ d.args ++ z_co d.undo
def z_ca (ws : List ByteArray) : ByteArray := ⟨(Lib.join (ws.map (·.data.toList)) [32]).toArray⟩
theorem z_et (M : Nat) : ∀ ws : List ByteArray, (∀ s ∈ ws, s.size ≤ M) → (Lib.joinTail [32] (ws.map (·.data.toList))).length ≤ ws.length * (M + 1)
 | [], _ => by simp [Lib.joinTail]
 | a :: r, h => by
  have h1 := h a (by simp)
  have h2 := z_et M r (fun s hs => h s (by simp [hs]))
  simp only [Lib.joinTail, List.map_cons, List.flatten_cons, List.length_append, List.length_cons, List.length_nil] at h2 ⊢
  have e : a.data.toList.length = a.size := by simp
  rw [e, Nat.add_mul r.length 1, Nat.one_mul]
  omega
theorem z_gU (M : Nat) (ws : List ByteArray) (h : ∀ s ∈ ws, s.size ≤ M) : (Lib.join (ws.map (·.data.toList)) [32]).length ≤ ws.length * (M + 1) := by
 match ws, h with
 | [], _ => simp [Lib.join_nil]
 | a :: r, h =>
  have h1 := h a (by simp)
  have h2 := z_et M r (fun s hs => h s (by simp [hs]))
  have e : a.data.toList.length = a.size := by simp
  rw [List.map_cons, Lib.join_cons, List.length_append, e, List.length_cons, Nat.add_mul r.length 1, Nat.one_mul]
  omega
theorem z_bI {c : Prop} {_ : Decidable c} (n : Nat) {a b : ByteArray} (ha : a.size ≤ n) (hb : b.size ≤ n) : (if c then a else b).size ≤ n := by split <;> assumption
theorem z_cJ (k : Int) : (z_a2 k).size ≤ 8 := z_bI _ (by decide) (z_bI _ (by decide) (z_bI _ (by decide) (z_bI _ (by decide) (z_bI _ (by decide) (z_bI _ (by decide) (z_bI _ (by decide) (z_bI _ (by decide) (z_bI _ (by decide) (z_bI _ (by decide) (z_bI _ (by decide) (z_bI _ (by decide) (z_bI _ (by decide) (z_bI _ (by decide) (z_bI _ (by decide) (by decide)))))))))))))))
theorem z_gN (ms : List ByteArray) : (z_ax ms).length ≤ ms.length := List.length_filter_le _ _
theorem z_ha (u : ByteArray) : (z_co u).length ≤ 2 := by rw [z_co]; split <;> simp
end
section
open Go.RowKit
theorem z_gB {w : World} {base g : Nat} {a : ByteArray} (h : w.heap[g]? = some (.cells #[.string a] 9 (0, 0))) (hb : base ≤ g) : w.ownsRow base 9 1 (.slice (some ⟨g, 0, none⟩) 1 1) 1 (strCells [a]) :=
 ⟨rfl, .inr ⟨g, 1, _, rfl, hb, h, Nat.le_refl _, by unfold maxLen; omega, rfl, rfl⟩⟩
theorem z_mi (w : World) (x y : ByteArray) (t : TypeId) : ∀ k (h : k < [x, y].length), (w.alloc (.cells #[.string x, .string y] t)).cell? ⟨w.heap.size, k, none⟩ = some (.string ([x, y][k]'h)) := by
 intro k h
 match k, h with
 | 0, _ => simp [go_sem]
 | 1, _ => simp [go_sem]
theorem z_mZ {w w2 : World} {L : Obj} {x : ByteArray} {t : TypeId} (h : Below ((w.alloc L).alloc (.cells #[.string x] t)).heap.size ((w.alloc L).alloc (.cells #[.string x] t)) w2) : w2.heap[w.heap.size + 1]? = some (.cells #[.string x] t (0, 0)) := by
 rw [h.block _ (by simp)]
 show ((w.heap.push L).push (.cells #[.string x] t (0, 0)))[w.heap.size + 1]? = _
 rw [Array.getElem?_push, if_pos (by simp)]
theorem z_nr {w : World} {base : Nat} {v : Value} {B C : List ByteArray} (h : w.ownsRow base 9 1 v (B.length + C.length) (strCells B ++ strCells C)) : w.ownsRow base 9 1 v (B ++ C).length (strCells (B ++ C)) := by
 have e : strCells (B ++ C) = strCells B ++ strCells C := List.map_append ..
 rw [e, List.length_append]; exact h
theorem z_bP {w : World} {base g c : Nat} {ss : List ByteArray} (h : w.ownsRow base 9 1 (.slice (some ⟨g, 0, none⟩) ss.length c) ss.length (strCells ss)) : ss.length ≤ c := by
 rcases h.2 with ⟨h, _⟩ | ⟨g, cp, cur, h, _, _, h2, _⟩
 ·cases h
 ·cases h; exact h2
theorem z_bq {w : World} {base g c : Nat} {ss : List ByteArray} (h : w.ownsRow base 9 1 (.slice (some ⟨g, 0, none⟩) ss.length c) ss.length (strCells ss)) : ∀ (j : Nat) x, ss[j]? = some x → w.cell? ⟨g, 0 + j, none⟩ = some (.string x) := by
 intro j x hx
 obtain ⟨hj, e⟩ := List.getElem?_eq_some_iff.1 hx
 rw [Nat.zero_add, h.cellAt j (by omega)]
 simp [strCells, hj, e]
theorem z_b6 {A B : Nat} {w : World} {b off : Nat} {ss : List ByteArray} (hi : StrsAt A B w (some ⟨b, off, none⟩) ss) : ∀ j u, (strCells ss)[j]? = some u → w.cell? ((⟨b, off, none⟩ : Addr).add j) = some u := by
 intro j u hj
 have hjl : j < ss.length := by
  have := (List.getElem?_eq_some_iff.1 hj).1
  simpa [strCells] using this
 obtain ⟨b', off', e, _, hc⟩ := hi.at j hjl
 simp only [Option.some.injEq, Addr.mk.injEq] at e
 obtain ⟨rfl, rfl, _⟩ := e
 have e2 : (⟨b, off, none⟩ : Addr).add j = ⟨b, off + j, none⟩ := by
  unfold Addr.add
  split
  ·rename_i h; subst h; rfl
  ·rfl
 rw [e2, hc]
 simp [strCells, hjl] at hj
 rw [hj]
theorem z_fB (k : Int) (ao : Option Addr) (cap : Nat) (d : Bd) (w : World) (hk : branchK k = false) (hcap : d.args.length ≤ cap) (hl : d.args.length ≤ 1048576) (hs : ∀ s ∈ outW k d, s.size ≤ 1048576)
  (hi : StrsAt 0 w.heap.size w ao d.args) :
  Calls Tryz.prog 124 #[.agg #[.int .i64 k, .string d.to, .string d.name, .slice ao d.args.length cap, .string d.undo]] w fun e w' => e = .returned (.string (z_ca (outW k d))) ∧ Below w.heap.size w w' := by
 obtain ⟨i0, hi0, hz0, hz1, hz2⟩ := info_parts Tryz.infoStr
 have HI : Hid (StrsAt 0 w.heap.size w ao d.args) := hi
 have HS : Hid (∀ s ∈ outW k d, s.size ≤ 1048576) := hs
 have HK : Hid (branchK k = false) := hk
 clear hi hs hk
 go_enter Tryz.func124, Tryz.ntmps124
 go_wp2_with (go_at_call 159; refine (z_df _ _).mono ?_; rintro e w' ⟨rfl, rfl⟩)
 refine (z_cx _ _ _ _ _ _).mono ?_
 rintro e w2 ⟨rfl, hb2⟩
 rw [HK.out]
 have hb2' : Below (w.heap.size + 1) (w.alloc (.cells #[.int .i64 k, .string d.to, .string d.name, .slice ao d.args.length cap, .string d.undo] 49)) w2 := ((Below.refl _ _).alloc (by simp) _).trans (hb2.mono (by simp))
 obtain ⟨⟨x0, x1, x2, x3, x4⟩, hf, hlt⟩ := box5 (hb2'.mono (by simp))
 have hw2 : w.heap.size + 2 ≤ w2.heap.size := by have := hb2.size; simpa using this
 have HB2 : Hid (Below w.heap.size w w2) := ((Below.refl _ _).alloc (Nat.le_refl _) _).trans (hb2'.mono (by simp))
 have HO2 : Hid (w2.ownsRow (w.heap.size + 1) 9 1 (.slice (some ⟨w.heap.size + 1, 0, none⟩) 1 1) [z_a2 k].length (strCells [z_a2 k])) := z_gB (z_mZ hb2) (Nat.le_refl _)
 clear hb2 hb2'
 go_wp2_with fail
 refine (z_dN (w.heap.size + 1) w2.heap.size 2 _ [z_a2 k] [d.to, d.name] _ (HO2.out.alloc _) (by simp; omega) ?_ (by simp) (by simp [Value.ownBlock]; omega) (by simp) (Nat.le_refl _)).mono ?_
 ·exact z_mi w2 d.to d.name _
 rintro e w3 ⟨v3, rfl, hb3, hown3⟩
 have hb3' : Below (w.heap.size + 1) w2 w3 := ((Below.refl _ _).alloc (by omega) _).trans hb3
 have HB3 : Hid (Below w.heap.size w w3) := HB2.out.trans (hb3'.mono (by omega))
 obtain ⟨hq, hfq⟩ := (show (∀ o, w3.cell? ⟨w.heap.size, o, none⟩ = w2.cell? ⟨w.heap.size, o, none⟩) ∧ (∀ o, w3.frozen? ⟨w.heap.size, o, none⟩ = w2.frozen? ⟨w.heap.size, o, none⟩) from ⟨fun o => hb3'.cell (p := ⟨w.heap.size, o, none⟩) (by simp), fun o => hb3'.frozen (p := ⟨w.heap.size, o, none⟩) (by simp)⟩)
 have y0 := (hq 0).trans x0
 have y3 := (hq 3).trans x3
 have y4 := (hq 4).trans x4
 have hf3 : ∀ o, w3.frozen? ⟨w.heap.size, o, none⟩ = false := fun o => (hfq o).trans (hf o)
 have hw3 : w.heap.size + 2 ≤ w3.heap.size := by have := hb3'.size; omega
 obtain ⟨g3, c3, rfl, hg3, hlt3⟩ := hown3.form (by simp)
 have HO3 : Hid (w3.ownsRow (w.heap.size + 1) 9 1 (.slice (some ⟨g3, 0, none⟩) ([z_a2 k] ++ z_ax [d.to, d.name]).length c3) ([z_a2 k] ++ z_ax [d.to, d.name]).length (strCells ([z_a2 k] ++ z_ax [d.to, d.name]))) := hown3
 clear hb3 hb3' hq hfq hown3 x0 x1 x2 x3 x4 hf hlt HO2 HB2 hw2
 have hcA : ([z_a2 k] ++ z_ax [d.to, d.name]).length ≤ c3 := by
  rcases HO3.out.2 with ⟨h, _⟩ | ⟨g, cp, cur, h, _, _, h2, _⟩
  ·cases h
  ·cases h; exact h2
 obtain ⟨A, hA⟩ : ∃ A, A = [z_a2 k] ++ z_ax [d.to, d.name] := ⟨_, rfl⟩
 rw [← hA] at HO3 hcA
 have hAl : A.length ≤ 3 := by rw [hA]; have := z_gN [d.to, d.name]; simp at this ⊢; omega
 have hA1 : 0 < A.length := by rw [hA]; simp
 have HN : Hid (outW k d = A ++ (if k = 5 ∧ 0 < d.args.length then [forS] else []) ++ d.args ++ z_co d.undo) := by
  show _ = _
  rw [outW, HK.out, hA]; rfl
 rw [← hA]
 clear hA
 have hA0 : 0 < A.length := hA1
 have hW0 : 0 < (outW k d).length := by rw [HN.out]; simp only [List.length_append]; omega
 have hW1 : (outW k d).length ≤ 1048582 := by
  rw [HN.out]; have := z_ha d.undo; simp only [List.length_append]; split <;> simp <;> omega
 have HJ : Hid ((Lib.join ((outW k d).map (·.data.toList)) [32]).length ≤ 140737488355328) := by
  have h1 := z_gU 1048576 _ HS.out
  have h2 : (outW k d).length * (1048576 + 1) ≤ 1048582 * (1048576 + 1) := Nat.mul_le_mul_right _ hW1
  show _ ≤ _
  omega
 by_cases hn : 0 < d.args.length
 ·obtain ⟨b, off, rfl, hB, _⟩ := HI.out 0 hn
  have hq0 : (0 : Int) < (d.args.length : Int) := by omega
  cases h5 : (k == 5) with
  | true =>
   have e5 : k = 5 := by simpa using h5
   have HE : Hid (outW k d = (A ++ [forS]) ++ d.args ++ z_co d.undo) := by show _ = _; rw [HN.out, if_pos ⟨e5, hn⟩]
   clear e5 HN
   go_wp2_with (first | (at_builtin; (refine wpList_append_own _ rfl _ _ 45 rfl (w.heap.size + 1) 9 i0 (.string ByteArray.empty) 1 16 Tryz.underlying45 hi0 hz0 hz1 hz2 rfl (by decide) _ _ _ rfl (HO3.out.alloc _) ⟨w3.heap.size, 0, none⟩ 1 1 [.string forS] rfl rfl (cell_one_new _ _ _) (fun u hu => by simp at hu; subst hu; rfl) (by unfold maxLen; omega) (by omega) (by simp; omega) ?_; intro v7 w7 hown7 hgrow7 _; have hb7 := z_b7 HO3.out (Below.refl _ _) ((Below.refl _ _).alloc (Nat.le_refl _) _) (by omega) hgrow7 (by rfl); have HO7 : Hid (w7.ownsRow (w.heap.size + 1) 9 1 v7 (A ++ [forS]).length (strCells (A ++ [forS]))) := (by simpa [strCells, Hid] using hown7); have HB7 : Hid (Below w.heap.size w w7) := HB3.out.trans (hb7.mono (by omega)); have hw7 : w.heap.size + 2 ≤ w7.heap.size := (by have := hb7.size; omega); have z3 := (hb7.cell (p := ⟨w.heap.size, 3, none⟩) (by simp)).trans y3; have z7 := (hb7.cell (p := ⟨w.heap.size, 4, none⟩) (by simp)).trans y4; clear hown7 hgrow7 hb7)) | (at_builtin; go_loud (refine wpList_append_own _ rfl _ _ 45 rfl (w.heap.size + 1) 9 i0 (.string ByteArray.empty) 1 16 Tryz.underlying45 hi0 hz0 hz1 hz2 rfl (by decide) _ _ _ rfl HO7.out ⟨b, off, none⟩ d.args.length cap (strCells d.args) rfl (by simp [strCells]) (z_b6 (HI.out.below HB7.out)) (by intro u hu; simp [strCells] at hu <;> (obtain ⟨a, _, rfl⟩ := hu; rfl)) (by unfold maxLen; first | omega | (simp; omega)) (by first | omega | (simp; omega)) (by omega) ?_; intro v4 w4 hown4 hgrow4 _; have hb4 := z_b7 HO7.out (Below.refl _ _) (Below.refl _ _) (by omega) hgrow4 (by rfl); have HO4 : Hid (w4.ownsRow (w.heap.size + 1) 9 1 v4 ((A ++ [forS]) ++ d.args).length (strCells ((A ++ [forS]) ++ d.args))) := (z_nr hown4); have HB4 : Hid (Below w.heap.size w w4) := HB7.out.trans (hb4.mono (by omega)); have hw4 : w.heap.size + 2 ≤ w4.heap.size := (by have := hb4.size; omega); have z4 := (hb4.cell (p := ⟨w.heap.size, 4, none⟩) (by simp)).trans z7; clear hown4 hgrow4 hb4)))
   refine (z_bL (w.heap.size + 1) _ ((A ++ [forS]) ++ d.args) d.undo _ HO4.out (by omega) (by first | omega | (simp; omega))).mono ?_
   rintro e w5 ⟨v5, rfl, hb5, hown5⟩
   have HB5 : Hid (Below w.heap.size w w5) := HB4.out.trans (hb5.mono (by omega))
   have hown6 : w5.ownsRow (w.heap.size + 1) 9 1 v5 (outW k d).length (strCells (outW k d)) := by rw [HE.out]; exact hown5
   obtain ⟨g5, c5, rfl, hg5, hlt5⟩ := hown6.form hW0
   have hc5 : (outW k d).length ≤ c5 := z_bP hown6
   have HC5 := z_bq hown6
   clear hb5 hown5 hown6
   go_wp2_with fail
   refine (Tryz.strings_Join g5 0 c5 (outW k d) ⟨#[32]⟩ w5 HC5 hlt5 (by omega) hc5 HJ.out).mono ?_
   rintro e w6 ⟨rfl, hb6⟩
   have HB6 : Below w.heap.size w w6 := HB5.out.trans (hb6.mono HB5.out.size)
   clear hb6
   go_wp2
   go_ret
   exact ⟨rfl, HB6⟩
  | false =>
   have e5 : ¬ k = 5 := by simpa using h5
   have HE : Hid (outW k d = A ++ d.args ++ z_co d.undo) := by show _ = _; rw [HN.out, if_neg (fun h => e5 h.1), List.append_nil]
   clear e5 HN
   have HCA : Hid (∀ j u, (strCells d.args)[j]? = some u → w3.cell? ((⟨b, off, none⟩ : Addr).add j) = some u) := z_b6 (HI.out.below HB3.out)
   go_wp2_with (at_builtin; go_loud (refine wpList_append_own _ rfl _ _ 45 rfl (w.heap.size + 1) 9 i0 (.string ByteArray.empty) 1 16 Tryz.underlying45 hi0 hz0 hz1 hz2 rfl (by decide) _ _ _ rfl HO3.out ⟨b, off, none⟩ d.args.length cap (strCells d.args) rfl (by simp [strCells]) HCA.out (by intro u hu; simp [strCells] at hu; obtain ⟨a, _, rfl⟩ := hu; rfl) (by unfold maxLen; first | omega | (simp; omega)) (by first | omega | (simp; omega)) (by omega) ?_; intro v4 w4 hown4 hgrow4 _; have hb4 := z_b7 HO3.out (Below.refl _ _) (Below.refl _ _) (by omega) hgrow4 (by rfl); have HO4 : Hid (w4.ownsRow (w.heap.size + 1) 9 1 v4 (A ++ d.args).length (strCells (A ++ d.args))) := (by simpa [strCells, Hid] using hown4); have HB4 : Hid (Below w.heap.size w w4) := HB3.out.trans (hb4.mono (by omega)); have hw4 : w.heap.size + 2 ≤ w4.heap.size := (by have := hb4.size; omega); have z4 := (hb4.cell (p := ⟨w.heap.size, 4, none⟩) (by simp)).trans y4; clear hown4 hgrow4 hb4))
   refine (z_bL (w.heap.size + 1) _ (A ++ d.args) d.undo _ HO4.out (by omega) (by first | omega | (simp; omega))).mono ?_
   rintro e w5 ⟨v5, rfl, hb5, hown5⟩
   have HB5 : Hid (Below w.heap.size w w5) := HB4.out.trans (hb5.mono (by omega))
   have hown6 : w5.ownsRow (w.heap.size + 1) 9 1 v5 (outW k d).length (strCells (outW k d)) := by rw [HE.out]; exact hown5
   obtain ⟨g5, c5, rfl, hg5, hlt5⟩ := hown6.form hW0
   have hc5 : (outW k d).length ≤ c5 := z_bP hown6
   have HC5 := z_bq hown6
   clear hb5 hown5 hown6
   go_wp2_with fail
   refine (Tryz.strings_Join g5 0 c5 (outW k d) ⟨#[32]⟩ w5 HC5 hlt5 (by omega) hc5 HJ.out).mono ?_
   rintro e w6 ⟨rfl, hb6⟩
   have HB6 : Below w.heap.size w w6 := HB5.out.trans (hb6.mono HB5.out.size)
   clear hb6
   go_wp2
   go_ret
   exact ⟨rfl, HB6⟩
 ·have e0 : d.args = [] := List.length_eq_zero_iff.1 (by omega)
  have HE : Hid (outW k d = A ++ z_co d.undo) := by show _ = _; rw [HN.out, if_neg (fun h => hn h.2), e0, List.append_nil, List.append_nil]
  clear HN hn
  cases ao with
  | none =>
   cases h5 : (k == 5) with
   | true =>
    rw [e0] at y3 ⊢
    go_wp2_with fail
    refine (z_bL (w.heap.size + 1) _ A d.undo _ HO3.out (by omega) (by first | omega | (simp; omega))).mono ?_
    rintro e w5 ⟨v5, rfl, hb5, hown5⟩
    have HB5 : Hid (Below w.heap.size w w5) := HB3.out.trans (hb5.mono (by omega))
    have hown6 : w5.ownsRow (w.heap.size + 1) 9 1 v5 (outW k d).length (strCells (outW k d)) := by rw [HE.out]; exact hown5
    obtain ⟨g5, c5, rfl, hg5, hlt5⟩ := hown6.form hW0
    have hc5 : (outW k d).length ≤ c5 := z_bP hown6
    have HC5 := z_bq hown6
    clear hb5 hown5 hown6
    go_wp2_with fail
    refine (Tryz.strings_Join g5 0 c5 (outW k d) ⟨#[32]⟩ w5 HC5 hlt5 (by omega) hc5 HJ.out).mono ?_
    rintro e w6 ⟨rfl, hb6⟩
    have HB6 : Below w.heap.size w w6 := HB5.out.trans (hb6.mono HB5.out.size)
    clear hb6
    go_wp2
    go_ret
    exact ⟨rfl, HB6⟩
   | false =>
    rw [e0] at y3 ⊢
    go_wp2_with fail
    refine (z_bL (w.heap.size + 1) _ A d.undo _ HO3.out (by omega) (by first | omega | (simp; omega))).mono ?_
    rintro e w5 ⟨v5, rfl, hb5, hown5⟩
    have HB5 : Hid (Below w.heap.size w w5) := HB3.out.trans (hb5.mono (by omega))
    have hown6 : w5.ownsRow (w.heap.size + 1) 9 1 v5 (outW k d).length (strCells (outW k d)) := by rw [HE.out]; exact hown5
    obtain ⟨g5, c5, rfl, hg5, hlt5⟩ := hown6.form hW0
    have hc5 : (outW k d).length ≤ c5 := z_bP hown6
    have HC5 := z_bq hown6
    clear hb5 hown5 hown6
    go_wp2_with fail
    refine (Tryz.strings_Join g5 0 c5 (outW k d) ⟨#[32]⟩ w5 HC5 hlt5 (by omega) hc5 HJ.out).mono ?_
    rintro e w6 ⟨rfl, hb6⟩
    have HB6 : Below w.heap.size w w6 := HB5.out.trans (hb6.mono HB5.out.size)
    clear hb6
    go_wp2
    go_ret
    exact ⟨rfl, HB6⟩
  | some ad =>
   cases h5 : (k == 5) with
   | true =>
    rw [e0] at y3 ⊢
    go_wp2_with ((at_builtin; refine wpList_append_own _ rfl _ _ 45 rfl (w.heap.size + 1) 9 i0 (.string ByteArray.empty) 1 16 Tryz.underlying45 hi0 hz0 hz1 hz2 rfl (by decide) _ _ _ rfl HO3.out ad 0 cap (strCells []) rfl (by simp [strCells]) (by intro j u hj; simp [strCells] at hj) (by intro u hu; simp [strCells] at hu <;> (obtain ⟨a, _, rfl⟩ := hu; rfl)) (by unfold maxLen; first | omega | (simp; omega)) (by first | omega | (simp; omega)) (by omega) ?_; intro v4 w4 hown4 hgrow4 _; have hb4 := z_b7 HO3.out (Below.refl _ _) (Below.refl _ _) (by omega) hgrow4 (by rfl); have HO4 : Hid (w4.ownsRow (w.heap.size + 1) 9 1 v4 A.length (strCells A)) := (by simpa [strCells, Hid] using hown4); have HB4 : Hid (Below w.heap.size w w4) := HB3.out.trans (hb4.mono (by omega)); have hw4 : w.heap.size + 2 ≤ w4.heap.size := (by have := hb4.size; omega); have z4 := (hb4.cell (p := ⟨w.heap.size, 4, none⟩) (by simp)).trans y4; clear hown4 hgrow4 hb4))
    refine (z_bL (w.heap.size + 1) _ A d.undo _ HO4.out (by omega) (by first | omega | (simp; omega))).mono ?_
    rintro e w5 ⟨v5, rfl, hb5, hown5⟩
    have HB5 : Hid (Below w.heap.size w w5) := HB4.out.trans (hb5.mono (by omega))
    have hown6 : w5.ownsRow (w.heap.size + 1) 9 1 v5 (outW k d).length (strCells (outW k d)) := by rw [HE.out]; exact hown5
    obtain ⟨g5, c5, rfl, hg5, hlt5⟩ := hown6.form hW0
    have hc5 : (outW k d).length ≤ c5 := z_bP hown6
    have HC5 := z_bq hown6
    clear hb5 hown5 hown6
    go_wp2_with fail
    refine (Tryz.strings_Join g5 0 c5 (outW k d) ⟨#[32]⟩ w5 HC5 hlt5 (by omega) hc5 HJ.out).mono ?_
    rintro e w6 ⟨rfl, hb6⟩
    have HB6 : Below w.heap.size w w6 := HB5.out.trans (hb6.mono HB5.out.size)
    clear hb6
    go_wp2
    go_ret
    exact ⟨rfl, HB6⟩
   | false =>
    rw [e0] at y3 ⊢
    go_wp2_with ((at_builtin; refine wpList_append_own _ rfl _ _ 45 rfl (w.heap.size + 1) 9 i0 (.string ByteArray.empty) 1 16 Tryz.underlying45 hi0 hz0 hz1 hz2 rfl (by decide) _ _ _ rfl HO3.out ad 0 cap (strCells []) rfl (by simp [strCells]) (by intro j u hj; simp [strCells] at hj) (by intro u hu; simp [strCells] at hu <;> (obtain ⟨a, _, rfl⟩ := hu; rfl)) (by unfold maxLen; first | omega | (simp; omega)) (by first | omega | (simp; omega)) (by omega) ?_; intro v4 w4 hown4 hgrow4 _; have hb4 := z_b7 HO3.out (Below.refl _ _) (Below.refl _ _) (by omega) hgrow4 (by rfl); have HO4 : Hid (w4.ownsRow (w.heap.size + 1) 9 1 v4 A.length (strCells A)) := (by simpa [strCells, Hid] using hown4); have HB4 : Hid (Below w.heap.size w w4) := HB3.out.trans (hb4.mono (by omega)); have hw4 : w.heap.size + 2 ≤ w4.heap.size := (by have := hb4.size; omega); have z4 := (hb4.cell (p := ⟨w.heap.size, 4, none⟩) (by simp)).trans y4; clear hown4 hgrow4 hb4))
    refine (z_bL (w.heap.size + 1) _ A d.undo _ HO4.out (by omega) (by first | omega | (simp; omega))).mono ?_
    rintro e w5 ⟨v5, rfl, hb5, hown5⟩
    have HB5 : Hid (Below w.heap.size w w5) := HB4.out.trans (hb5.mono (by omega))
    have hown6 : w5.ownsRow (w.heap.size + 1) 9 1 v5 (outW k d).length (strCells (outW k d)) := by rw [HE.out]; exact hown5
    obtain ⟨g5, c5, rfl, hg5, hlt5⟩ := hown6.form hW0
    have hc5 : (outW k d).length ≤ c5 := z_bP hown6
    have HC5 := z_bq hown6
    clear hb5 hown5 hown6
    go_wp2_with fail
    refine (Tryz.strings_Join g5 0 c5 (outW k d) ⟨#[32]⟩ w5 HC5 hlt5 (by omega) hc5 HJ.out).mono ?_
    rintro e w6 ⟨rfl, hb6⟩
    have HB6 : Below w.heap.size w w6 := HB5.out.trans (hb6.mono HB5.out.size)
    clear hb6
    go_wp2
    go_ret
    exact ⟨rfl, HB6⟩
end
end Go.Proofs.YtlbjjbolbopfmaaGreatDoor
