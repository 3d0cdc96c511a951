import Derived.Test.YtlbjjbolbopfmaaGreatDoorJ09
import Derived.Test.YtlbjjbolbopfmaaGreatDoorJ05
import Derived.Test.YtlbjjbolbopfmaaGreatDoorJ03
import Derived.Maps.AppendAt
import Derived.Deep.CutRange
import Derived.Laws.AppendOwnNone
namespace Go.Proofs.YtlbjjbolbopfmaaGreatDoor
set_option maxHeartbeats 2000000
set_option maxRecDepth 1000000
set_option linter.unusedVariables false
section
open Go.RowKit
theorem StrsAt.grown {A B : Nat} {w w' : World} {ao : Option Addr} {ss : List ByteArray} {row : Option Nat} (h : StrsAt A B w ao ss) (hg : w.grownBy w' row) (hB : B ≤ w.heap.size) (hr : ∀ j, row = some j → j < A ∨ B ≤ j) : StrsAt A B w' ao ss := by
 intro k hk
 obtain ⟨b, off, e, hb, hc⟩ := h k hk
 refine ⟨b, off, e, hb, ?_⟩
 exact (World.cell?_of_block (hg.block b (by omega) (fun e => by have := hr b e.symm; omega))).trans hc
theorem S_of {base n1 B : Nat} {v v' : Value} {A : List ByteArray} {x : ByteArray} {ao : Option Addr} {ss : List ByteArray} {w wr w3 : World} {t : TypeId} (hb : Below base w wr) (hbs : base ≤ wr.heap.size) (ho : wr.ownsRow base 9 1 v A.length (strCells A))
  (hi : StrsAt B n1 wr ao ss) (hn1 : n1 ≤ wr.heap.size) (hv : ∀ j, v.ownBlock = some j → j < B ∨ n1 ≤ j)
  (hown : w3.ownsRow base 9 1 v' (A.length + 1) (strCells A ++ [.string x])) (hg : (wr.alloc (.cells #[.string x] t)).grownBy w3 v.ownBlock) (hat : v'.ownBlock = v.ownBlock ∨ v'.ownBlock = some (wr.alloc (.cells #[.string x] t)).heap.size) :
  Aside (w3.ownsRow base 9 1 v' (A ++ [x]).length (strCells (A ++ [x])) ∧ Below base w w3 ∧ StrsAt B n1 w3 ao ss ∧ n1 ≤ w3.heap.size ∧ ∀ j, v'.ownBlock = some j → j < B ∨ n1 ≤ j) := by
 have hsz := hg.size
 simp at hsz
 refine ⟨by simpa [strCells] using hown, (hb.alloc hbs _).grown hg (by simp; omega) (fun j hj => (ho.lt _ hj).1), ?_, by omega, ?_⟩
 ·exact (hi.below (((Below.refl _ _).alloc hn1 _))).grown hg (by simp; omega) hv
 ·intro j hj
  rcases hat with h | h
  ·exact hv j (h ▸ hj)
  ·rw [h] at hj; simp at hj; omega
theorem z_jf (s : ByteArray) (w : World) (hs : s.size ≤ 4398046510000) :
  Calls Tryz.prog 135 #[.string s] w fun e w' => ∃ v, e = .returned v ∧ Below w.heap.size w w' ∧ z_bd w.heap.size w'.heap.size w' v (wordsW s) := by
 obtain ⟨i0, hi0, hz0, hz1, hz2⟩ := info_parts Tryz.infoStr
 obtain ⟨ss, hss⟩ : ∃ ss, ss = cutS s 32 := ⟨_, rfl⟩
 have hlen : ss.length ≤ s.size + 1 := by rw [hss]; exact z_eW _ _ _ _ _
 have HW : Hid (z_ay ss = wordsW s) := by show _ = _; rw [hss]; exact z_kY s
 have HSS : Hid (ss = cutS s 32) := hss
 clear hss
 have HO0 : Hid ((w.alloc (.cells #[] 9)).ownsRow w.heap.size 9 1 (.slice (some ⟨w.heap.size, 0, none⟩) 0 0) 0 (strCells [])) := World.ownsRow_made w #[] 0 (Nat.le_refl _) (by decide) rfl
 have HB0 : Hid (Below w.heap.size w (w.alloc (.cells #[] 9))) := (Below.refl _ _).alloc (Nat.le_refl _) _
 go_enter Tryz.func135, Tryz.ntmps135
 go_wp2_with (go_at_call 154; refine (l1Cut_any s 32 _ (by omega)).mono ?_; rintro e w1 ⟨v, rfl, hb1, ao, cap, rfl, hcp, hv⟩; rw [← HSS.out] at hcp hv ⊢; have hw1 : w.heap.size + 1 ≤ w1.heap.size := (by have := hb1.size; simpa using this); have HV : Hid (StrsAt (w.heap.size + 1) w1.heap.size w1 ao ss) := (by simpa [Hid] using hv); have HO1 : Hid (w1.ownsRow w.heap.size 9 1 (.slice (some ⟨w.heap.size, 0, none⟩) 0 0) 0 (strCells [])) := z_ax HO0.out hb1; have HB1 : Hid (Below w.heap.size w w1) := HB0.out.trans (hb1.mono (by simp)); clear hb1 hv)
 clear HO0 HB0
 obtain ⟨n1, hn1⟩ : ∃ n1, n1 = w1.heap.size := ⟨_, rfl⟩
 rw [← hn1] at hw1 HV
 have hn2 : n1 ≤ w1.heap.size := by omega
 clear hn1
 go_loopw [3, 5] (fun v ix wr => ∃ k : Nat, k ≤ ss.length ∧ ix = .int .i64 k ∧ Hid (wr.ownsRow w.heap.size 9 1 v (z_ay (ss.take k)).length (strCells (z_ay (ss.take k)))) ∧ Hid (Below w.heap.size w wr) ∧ Hid (StrsAt (w.heap.size + 1) n1 wr ao ss) ∧ n1 ≤ wr.heap.size ∧ Hid (∀ j, v.ownBlock = some j → j < w.heap.size + 1 ∨ n1 ≤ j)) (fun _ ix _ => ss.length - (intOf ix).toNat)
 case atStart => exact ⟨0, Nat.zero_le _, rfl, HO1, HB1, HV, hn2, fun j hj => by simp [Value.ownBlock] at hj; omega⟩
 case round =>
  obtain ⟨k, hk, rfl, HO, HB, HI, hnr, HT⟩ := hrel
  have hwsz := HB.out.size
  clear HO1 HB1 HV
  by_cases hlt : k < ss.length
  ·obtain ⟨b, off, rfl, hB, hc1⟩ := HI.out.at k hlt
   have hfl : (z_ay (ss.take k)).length ≤ k := Nat.le_trans (List.length_filter_le _ _) (by simp; omega)
   by_cases he : ss[k].size = 0
   ·have hq : ss[k] = ByteArray.empty := z_bD he
    have HF : Hid (z_ay (ss.take (k + 1)) = z_ay (ss.take k)) := by
     show _ = _; rw [z_dh _ _ hlt]; simp [z_ay, hq]
    rw [hq] at hc1
    clear he hq
    go_wp2
    go_roundw
    case rel => exact ⟨k + 1, by omega, by go_num, (show Hid _ by rw [HF.out]; exact HO), HB, HI, hnr, HT⟩
    case measure => simp [intOf]; omega
   ·obtain ⟨x, hx⟩ : ∃ x, x = ss[k] := ⟨_, rfl⟩
    have HF : Hid (z_ay (ss.take (k + 1)) = z_ay (ss.take k) ++ [x]) := by
     show _ = _; have he2 : ¬ ss[k] = ByteArray.empty := fun e => he (by rw [e]; rfl)
     rw [z_dh _ _ hlt, hx]; simp [z_ay, he2]
    have hq : x.toList.isEmpty = false := by rw [z_av, hx]; simpa using he
    have hq2 : (x.toList == []) = false := by rw [← hq]; cases x.toList <;> rfl
    rw [← hx] at hc1
    clear he hx
    obtain ⟨A, hA⟩ : ∃ A, A = z_ay (ss.take k) := ⟨_, rfl⟩
    rw [← hA] at HO HF hfl
    clear hA
    go_wp2_with (at_builtin; refine wpList_append_own_at _ rfl _ _ 45 rfl w.heap.size 9 i0 (.string ByteArray.empty) 1 16 Tryz.underlying45 hi0 hz0 hz1 hz2 rfl (by decide) _ _ _ rfl (HO.out.alloc _) ⟨wr.heap.size, 0, none⟩ 1 1 [.string x] rfl rfl (cell_one_new _ _ _) (fun u hu => by simp at hu; subst hu; rfl) (by unfold maxLen; omega) (by omega) (by simp; omega) ?_; intro v' w3 hown' hgrow3 hnil3 hat3; have X := S_of HB.out hwsz HO.out HI.out hnr HT.out hown' hgrow3 hat3; clear hown' hgrow3 hat3 hnil3)
    go_roundw
    case rel => exact ⟨k + 1, by omega, by go_num, (show Hid _ by rw [HF.out]; exact X.out.1), X.out.2.1, X.out.2.2.1, X.out.2.2.2.1, X.out.2.2.2.2⟩
    case measure => simp [intOf]; omega
  ·have e0 : ss.take k = ss := List.take_of_length_le (by omega)
   rw [e0, HW.out] at HO
   go_wp2
   go_ret
   obtain ⟨ao', cap', e1, e2, e3⟩ := StrsAt.of_owns HO.out
   exact ⟨_, rfl, HB.out, ao', cap', e1, e2, e3⟩
end
section
open Go.RowKit
theorem z_kH (xs ys : List ByteArray) (k : Nat) (h : k < xs.length) : comm (xs.take (k + 1)) ys = comm (xs.take k) ys ++ (if hasB ys xs[k] = true then [xs[k]] else []) := by
 rw [List.take_succ_eq_append_getElem h, comm, List.filter_append]
 cases hh : hasB ys xs[k] <;> simp [comm, hh]
theorem T_of {base : Nat} {v v' : Value} {A : List ByteArray} {x : ByteArray} {w wr w3 : World} {t : TypeId} (hb : Below base w wr) (hbs : base ≤ wr.heap.size) (ho : wr.ownsRow base 9 1 v A.length (strCells A))
  (hown : w3.ownsRow base 9 1 v' (A.length + 1) (strCells A ++ [.string x])) (hg : (wr.alloc (.cells #[.string x] t)).grownBy w3 v.ownBlock) :
  Aside (w3.ownsRow base 9 1 v' (A ++ [x]).length (strCells (A ++ [x])) ∧ Below base w w3) := by
 exact ⟨by simpa [strCells] using hown, (hb.alloc hbs _).grown hg (by simp; omega) (fun j hj => (ho.lt _ hj).1)⟩
theorem z_ek (ao bo : Option Addr) (ca cb : Nat) (xs ys : List ByteArray) (w : World) (hla : xs.length ≤ 1048576) (hlb : ys.length ≤ 1048576) (ha : StrsAt 0 w.heap.size w ao xs) (hb : StrsAt 0 w.heap.size w bo ys) :
  Calls Tryz.prog 142 #[.slice ao xs.length ca, .slice bo ys.length cb] w fun e w' => ∃ v, e = .returned v ∧ Below w.heap.size w w' ∧ z_bd w.heap.size w'.heap.size w' v (comm xs ys) := by
 obtain ⟨i0, hi0, hz0, hz1, hz2⟩ := info_parts Tryz.infoStr
 have HIA : Hid (StrsAt 0 w.heap.size w ao xs) := ha
 have HIB : Hid (StrsAt 0 w.heap.size w bo ys) := hb
 clear ha hb
 go_enter Tryz.func142, Tryz.ntmps142
 go_wp2
 go_loopw [5, 6] (fun v ix wr => ∃ k : Nat, k ≤ xs.length ∧ ix = .int .i64 k ∧ Hid (wr.ownsRow w.heap.size 9 1 v (comm (xs.take k) ys).length (strCells (comm (xs.take k) ys))) ∧ Hid (Below w.heap.size w wr)) (fun _ ix _ => xs.length - (intOf ix).toNat)
 case atStart => exact ⟨0, Nat.zero_le _, rfl, World.ownsRow_made w #[] 0 (Nat.le_refl _) (by decide) rfl, (Below.refl _ _).alloc (Nat.le_refl _) _⟩
 case round =>
  obtain ⟨k, hk, rfl, HO, HB⟩ := hrel
  have hwsz := HB.out.size
  by_cases hlt : k < xs.length
  ·obtain ⟨b, off, rfl, hB, hc0⟩ := HIA.out.at k hlt
   have hc1 := (HB.out.cell (p := ⟨b, off + k, none⟩) (by show b < _; omega)).trans hc0
   have hfl : (comm (xs.take k) ys).length ≤ k := Nat.le_trans (List.length_filter_le _ _) (by simp; omega)
   have HBS : Hid (StrsAt 0 w.heap.size wr bo ys) := HIB.out.below HB.out
   have hsn := z_kH xs ys k hlt
   clear hc0
   cases hh : hasB ys xs[k] with
   | false =>
    rw [hh, if_neg (by decide), List.append_nil] at hsn
    have HF : Hid (comm (xs.take (k + 1)) ys = comm (xs.take k) ys) := hsn
    clear hsn
    go_wp2_with (go_at_call 141; refine (z_aF bo cb ys _ _ wr (by omega) HBS.out).mono ?_; rintro e wr ⟨rfl, rfl⟩; rw [hh])
    go_roundw
    case rel => exact ⟨k + 1, by omega, by go_num, (show Hid _ by rw [HF.out]; exact HO), HB⟩
    case measure => simp [intOf]; omega
   | true =>
    rw [hh, if_pos rfl] at hsn
    obtain ⟨x, hx⟩ : ∃ x, x = xs[k] := ⟨_, rfl⟩
    rw [← hx] at hsn hc1 hh
    have HF : Hid (comm (xs.take (k + 1)) ys = comm (xs.take k) ys ++ [x]) := hsn
    clear hsn hx
    obtain ⟨A, hA⟩ : ∃ A, A = comm (xs.take k) ys := ⟨_, rfl⟩
    rw [← hA] at HO HF hfl
    clear hA
    go_wp2_with (first | (go_at_call 141; refine (z_aF bo cb ys _ _ wr (by omega) HBS.out).mono ?_; rintro e wr ⟨rfl, rfl⟩; rw [hh]) | (at_builtin; refine wpList_append_own _ rfl _ _ 45 rfl w.heap.size 9 i0 (.string ByteArray.empty) 1 16 Tryz.underlying45 hi0 hz0 hz1 hz2 rfl (by decide) _ _ _ rfl (HO.out.alloc _) ⟨wr.heap.size, 0, none⟩ 1 1 [.string x] rfl rfl (cell_one_new _ _ _) (fun u hu => by simp at hu; subst hu; rfl) (by unfold maxLen; omega) (by omega) (by simp; omega) ?_; intro v' w3 hown' hgrow3 hnil3; have X := T_of HB.out hwsz HO.out hown' hgrow3; clear hown' hgrow3 hnil3))
    go_roundw
    case rel => exact ⟨k + 1, by omega, by go_num, (show Hid _ by rw [HF.out]; exact X.out.1), X.out.2⟩
    case measure => simp [intOf]; omega
  ·have e0 : xs.take k = xs := List.take_of_length_le (by omega)
   rw [e0] at HO
   go_wp2
   go_ret
   obtain ⟨ao', cap', e1, e2, e3⟩ := StrsAt.of_owns HO.out
   exact ⟨_, rfl, HB.out, ao', cap', e1, e2, e3⟩
end
section
open Go.RowKit
theorem z_jk {A B b off : Nat} {w : World} {ss : List ByteArray} (h : StrsAt A B w (some ⟨b, off, none⟩) ss) : ∀ j u, (strCells ss)[j]? = some u → w.cell? ((⟨b, off, none⟩ : Addr).add j) = some u := by
 intro j u hj
 have hjl : j < ss.length := by
  have := (List.getElem?_eq_some_iff.1 hj).1
  simpa [strCells] using this
 obtain ⟨b', off', e, _, hc⟩ := h.at j hjl
 simp only [Option.some.injEq, Addr.mk.injEq] at e
 obtain ⟨rfl, rfl, _⟩ := e
 have e2 : (⟨b, off, none⟩ : Addr).add j = ⟨b, off + j, none⟩ := by
  unfold Addr.add
  split
  ·rename_i h; subst h; rfl
  ·rfl
 rw [e2, hc]
 simp [strCells, hjl] at hj
 rw [hj]
theorem z_cS (ao bo : Option Addr) (ca cb : Nat) (xs ys : List ByteArray) (w : World) (hla : xs.length ≤ 1048576) (hlb : ys.length ≤ 1048576) (ha : StrsAt 0 w.heap.size w ao xs) (hb : StrsAt 0 w.heap.size w bo ys) :
  Calls Tryz.prog 104 #[.slice ao xs.length ca, .slice bo ys.length cb] w fun e w' => ∃ v, e = .returned v ∧ Below w.heap.size w w' ∧ z_bd w.heap.size w'.heap.size w' v (uniU xs ys) := by
 obtain ⟨i0, hi0, hz0, hz1, hz2⟩ := info_parts Tryz.infoStr
 have HIA : Hid (StrsAt 0 w.heap.size w ao xs) := ha
 have HIB : Hid (StrsAt 0 w.heap.size w bo ys) := hb
 have HM : Hid ((w.alloc (.cells #[] 9)).ownsRow w.heap.size 9 1 (.slice (some ⟨w.heap.size, 0, none⟩) 0 0) 0 []) := World.ownsRow_made w #[] 0 (Nat.le_refl _) (by decide) rfl
 have HM1 : Hid (Below w.heap.size w (w.alloc (.cells #[] 9))) := (Below.refl _ _).alloc (Nat.le_refl _) _
 clear ha hb
 go_enter Tryz.func104, Tryz.ntmps104
 go_upto_region 1 with fail
 go_cut [5] from 7 to 9 (fun v wx => Hid (wx.ownsRow w.heap.size 9 1 v xs.length (strCells xs)) ∧ Hid (Below w.heap.size w wx))
 case first =>
  by_cases h0 : 0 < xs.length
  ·obtain ⟨b, off, rfl, hB, _⟩ := HIA.out 0 h0
   have HC : Hid (∀ j u, (strCells xs)[j]? = some u → (w.alloc (.cells #[] 9)).cell? ((⟨b, off, none⟩ : Addr).add j) = some u) := z_jk (HIA.out.below HM1.out)
   go_wp2_with (at_builtin; refine wpList_append_own _ rfl _ _ 45 rfl w.heap.size 9 i0 (.string ByteArray.empty) 1 16 Tryz.underlying45 hi0 hz0 hz1 hz2 rfl (by decide) _ _ _ rfl HM.out ⟨b, off, none⟩ xs.length _ (strCells xs) rfl (by simp [strCells]) HC.out (by intro u hu; simp [strCells] at hu; obtain ⟨a, _, rfl⟩ := hu; rfl) (by unfold maxLen; omega) (by omega) (by simp) ?_; intro v' w1 hown hgrow _; rw [Nat.zero_add, List.nil_append] at hown; have HO : Hid (w1.ownsRow w.heap.size 9 1 v' xs.length (strCells xs)) := hown; have HB : Hid (Below w.heap.size w w1) := HM1.out.grown hgrow (by simp) (fun j hj => (HM.out.lt _ hj).1); clear hown hgrow)
   go_meet
   case rel => exact ⟨HO, HB⟩
  ·have e : xs = [] := List.length_eq_zero_iff.1 (by omega)
   subst e
   cases ao with
   | none =>
    go_wp2
    go_meet
    case rel => exact ⟨HM, HM1⟩
   | some ad =>
    go_wp2_with (at_builtin; refine wpList_append_own _ rfl _ _ 45 rfl w.heap.size 9 i0 (.string ByteArray.empty) 1 16 Tryz.underlying45 hi0 hz0 hz1 hz2 rfl (by decide) _ _ _ rfl HM.out ad 0 _ [] rfl rfl (by intro j u hj; simp at hj) (by intro u hu; simp at hu) (by unfold maxLen; omega) (by omega) (by simp) ?_; intro v' w1 hown hgrow _; have HO : Hid (w1.ownsRow w.heap.size 9 1 v' 0 []) := hown; have HB : Hid (Below w.heap.size w w1) := HM1.out.grown hgrow (by simp) (fun j hj => (HM.out.lt _ hj).1); clear hown hgrow)
    go_meet
    case rel => exact ⟨HO, HB⟩
 case rest =>
  obtain ⟨HO0, HB0⟩ := hcut
  clear HM HM1
  go_wp2_with fail
  go_loopw [5, 6] (fun v ix wr => ∃ k : Nat, k ≤ ys.length ∧ ix = .int .i64 k ∧ Hid (wr.ownsRow w.heap.size 9 1 v (uniU xs (ys.take k)).length (strCells (uniU xs (ys.take k)))) ∧ Hid (Below w.heap.size w wr)) (fun _ ix _ => ys.length - (intOf ix).toNat)
  case atStart => exact ⟨0, Nat.zero_le _, rfl, HO0, HB0⟩
  case round =>
   obtain ⟨k, hk, rfl, HO, HB⟩ := hrel
   have hwsz := HB.out.size
   by_cases hlt : k < ys.length
   ·obtain ⟨b, off, rfl, hB, hc0⟩ := HIB.out.at k hlt
    have hc1 := (HB.out.cell (p := ⟨b, off + k, none⟩) (by show b < _; omega)).trans hc0
    have hfl : (uniU xs (ys.take k)).length ≤ 2097152 := by have := z_bz (ys.take k) xs; simp at this; omega
    have hsn := z_ib xs ys k hlt
    clear hc0
    obtain ⟨x, hx⟩ : ∃ x, x = ys[k] := ⟨_, rfl⟩
    obtain ⟨A, hA⟩ : ∃ A, A = uniU xs (ys.take k) := ⟨_, rfl⟩
    rw [← hA] at HO hfl hsn
    rw [← hx] at hsn hc1
    clear hA hx
    obtain ⟨vo, vc, rfl, hvc, hvs⟩ := StrsAt.of_owns HO.out
    have HVS : Hid (StrsAt w.heap.size wr.heap.size wr vo A) := hvs
    clear hvs
    cases hh : hasB A x with
    | true =>
     rw [addU, if_pos hh] at hsn
     have HF : Hid (uniU xs (ys.take (k + 1)) = A) := hsn
     clear hsn
     go_wp2_with (go_at_call 141; refine (z_aF vo vc A _ _ wr (by omega) (HVS.out.mono (Nat.zero_le _) (Nat.le_refl _))).mono ?_; rintro e wr ⟨rfl, rfl⟩; rw [hh])
     go_roundw
     case rel => exact ⟨k + 1, by omega, by go_num, (show Hid _ by rw [HF.out]; exact HO), HB⟩
     case measure => simp [intOf]; omega
    | false =>
     rw [addU, if_neg (by rw [hh]; decide)] at hsn
     have HF : Hid (uniU xs (ys.take (k + 1)) = A ++ [x]) := hsn
     clear hsn
     go_wp2_with (first | (go_at_call 141; refine (z_aF vo vc A _ _ wr (by omega) (HVS.out.mono (Nat.zero_le _) (Nat.le_refl _))).mono ?_; rintro e wr ⟨rfl, rfl⟩; rw [hh]) | (at_builtin; refine wpList_append_own _ rfl _ _ 45 rfl w.heap.size 9 i0 (.string ByteArray.empty) 1 16 Tryz.underlying45 hi0 hz0 hz1 hz2 rfl (by decide) _ _ _ rfl (HO.out.alloc _) ⟨wr.heap.size, 0, none⟩ 1 1 [.string x] rfl rfl (cell_one_new _ _ _) (fun u hu => by simp at hu; subst hu; rfl) (by unfold maxLen; omega) (by omega) (by simp; omega) ?_; intro v' w3 hown' hgrow3 hnil3; have X := T_of HB.out hwsz HO.out hown' hgrow3; clear hown' hgrow3 hnil3))
     go_roundw
     case rel => exact ⟨k + 1, by omega, by go_num, (show Hid _ by rw [HF.out]; exact X.out.1), X.out.2⟩
     case measure => simp [intOf]; omega
   ·have e0 : ys.take k = ys := List.take_of_length_le (by omega)
    rw [e0] at HO
    go_wp2
    go_ret
    obtain ⟨ao', cap', e1, e2, e3⟩ := StrsAt.of_owns HO.out
    exact ⟨_, rfl, HB.out, ao', cap', e1, e2, e3⟩
end
end Go.Proofs.YtlbjjbolbopfmaaGreatDoor
