import Derived.Test.YtlbjjbolbopfmaaGreatDoorI16
import Derived.Test.YtlbjjbolbopfmaaGreatDoorI09
import Derived.Test.YtlbjjbolbopfmaaGreatDoorI10
import Derived.Deep.CutRange
import Derived.Laws.AppendOwnNone
import Derived.Test.YtlbjjbolbopfmaaGreatDoorI17
import Derived.Test.YtlbjjbolbopfmaaGreatDoorI01
namespace Go.Proofs.YtlbjjbolbopfmaaGreatDoor
set_option maxHeartbeats 4000000
set_option maxRecDepth 1000000
set_option linter.unusedVariables false
section
open Go.RowKit
theorem z_kz (xs ys : List ByteArray) (k : Nat) (h : k < xs.length) : comm (xs.take (k + 1)) ys = comm (xs.take k) ys ++ (if hasB ys xs[k] = true then [xs[k]] else []) := by
 rw [List.take_succ_eq_append_getElem h, comm, List.filter_append]
 cases hh : hasB ys xs[k] <;> simp [comm, hh]
theorem T_of {base : Nat} {v v' : Value} {A : List ByteArray} {x : ByteArray} {w wr w3 : World} {t : TypeId} (hb : Below base w wr) (hbs : base ≤ wr.heap.size) (ho : wr.ownsRow base 9 1 v A.length (strCells A))
  (hown : w3.ownsRow base 9 1 v' (A.length + 1) (strCells A ++ [.string x])) (hg : (wr.alloc (.cells #[.string x] t)).grownBy w3 v.ownBlock) :
  Aside (w3.ownsRow base 9 1 v' (A ++ [x]).length (strCells (A ++ [x])) ∧ Below base w w3) := by
 exact ⟨by simpa [strCells] using hown, (hb.alloc hbs _).grown hg (by simp; omega) (fun j hj => (ho.lt _ hj).1)⟩
theorem z_eq (ao bo : Option Addr) (ca cb : Nat) (xs ys : List ByteArray) (w : World) (hla : xs.length ≤ 1048576) (hlb : ys.length ≤ 1048576) (ha : StrsAt 0 w.heap.size w ao xs) (hb : StrsAt 0 w.heap.size w bo ys) :
  Calls Tryz.prog 142 #[.slice ao xs.length ca, .slice bo ys.length cb] w fun e w' => ∃ v, e = .returned v ∧ Below w.heap.size w w' ∧ z_be w.heap.size w'.heap.size w' v (comm xs ys) := by
 obtain ⟨i0, hi0, hz0, hz1, hz2⟩ := info_parts Tryz.infoStr
 have HIA : Hid (StrsAt 0 w.heap.size w ao xs) := ha
 have HIB : Hid (StrsAt 0 w.heap.size w bo ys) := hb
 clear ha hb
 go_enter Tryz.func142, Tryz.ntmps142
 go_wp2
 go_loopw [5, 6] (fun v ix wr => ∃ k : Nat, k ≤ xs.length ∧ ix = .int .i64 k ∧ Hid (wr.ownsRow w.heap.size 9 1 v (comm (xs.take k) ys).length (strCells (comm (xs.take k) ys))) ∧ Hid (Below w.heap.size w wr)) (fun _ ix _ => xs.length - (intOf ix).toNat)
 case atStart => exact ⟨0, Nat.zero_le _, rfl, World.ownsRow_made w #[] 0 (Nat.le_refl _) (by decide) rfl, (Below.refl _ _).alloc (Nat.le_refl _) _⟩
 case round =>
  obtain ⟨k, hk, rfl, HO, HB⟩ := hrel
  have hwsz := HB.out.size
  by_cases hlt : k < xs.length
  ·obtain ⟨b, off, rfl, hB, hc0⟩ := HIA.out.at k hlt
   have hc1 := (HB.out.cell (p := ⟨b, off + k, none⟩) (by show b < _; omega)).trans hc0
   have hfl : (comm (xs.take k) ys).length ≤ k := Nat.le_trans (List.length_filter_le _ _) (by simp; omega)
   have HBS : Hid (StrsAt 0 w.heap.size wr bo ys) := HIB.out.below HB.out
   have hsn := z_kz xs ys k hlt
   clear hc0
   cases hh : hasB ys xs[k] with
   | false =>
    rw [hh, if_neg (by decide), List.append_nil] at hsn
    have HF : Hid (comm (xs.take (k + 1)) ys = comm (xs.take k) ys) := hsn
    clear hsn
    go_wp2_with (go_at_call 141; refine (z_aF bo cb ys _ _ wr (by omega) HBS.out).mono ?_; rintro e wr ⟨rfl, rfl⟩; rw [hh])
    go_roundw
    case rel => exact ⟨k + 1, by omega, by go_num, (show Hid _ by rw [HF.out]; exact HO), HB⟩
    case measure => simp [intOf]; omega
   | true =>
    rw [hh, if_pos rfl] at hsn
    obtain ⟨x, hx⟩ : ∃ x, x = xs[k] := ⟨_, rfl⟩
    rw [← hx] at hsn hc1 hh
    have HF : Hid (comm (xs.take (k + 1)) ys = comm (xs.take k) ys ++ [x]) := hsn
    clear hsn hx
    obtain ⟨A, hA⟩ : ∃ A, A = comm (xs.take k) ys := ⟨_, rfl⟩
    rw [← hA] at HO HF hfl
    clear hA
    go_wp2_with (first | (go_at_call 141; refine (z_aF bo cb ys _ _ wr (by omega) HBS.out).mono ?_; rintro e wr ⟨rfl, rfl⟩; rw [hh]) | (at_builtin; refine wpList_append_own _ rfl _ _ 45 rfl w.heap.size 9 i0 (.string ByteArray.empty) 1 16 Tryz.underlying45 hi0 hz0 hz1 hz2 rfl (by decide) _ _ _ rfl (HO.out.alloc _) ⟨wr.heap.size, 0, none⟩ 1 1 [.string x] rfl rfl (cell_one_new _ _ _) (fun u hu => by simp at hu; subst hu; rfl) (by unfold maxLen; omega) (by omega) (by simp; omega) ?_; intro v' w3 hown' hgrow3 hnil3; have X := T_of HB.out hwsz HO.out hown' hgrow3; clear hown' hgrow3 hnil3))
    go_roundw
    case rel => exact ⟨k + 1, by omega, by go_num, (show Hid _ by rw [HF.out]; exact X.out.1), X.out.2⟩
    case measure => simp [intOf]; omega
  ·have e0 : xs.take k = xs := List.take_of_length_le (by omega)
   rw [e0] at HO
   go_wp2
   go_ret
   obtain ⟨ao', cap', e1, e2, e3⟩ := StrsAt.of_owns HO.out
   exact ⟨_, rfl, HB.out, ao', cap', e1, e2, e3⟩
end
section
open Go.RowKit
theorem z_ji {A B b off : Nat} {w : World} {ss : List ByteArray} (h : StrsAt A B w (some ⟨b, off, none⟩) ss) : ∀ j u, (strCells ss)[j]? = some u → w.cell? ((⟨b, off, none⟩ : Addr).add j) = some u := by
 intro j u hj
 have hjl : j < ss.length := by
  have := (List.getElem?_eq_some_iff.1 hj).1
  simpa [strCells] using this
 obtain ⟨b', off', e, _, hc⟩ := h.at j hjl
 simp only [Option.some.injEq, Addr.mk.injEq] at e
 obtain ⟨rfl, rfl, _⟩ := e
 have e2 : (⟨b, off, none⟩ : Addr).add j = ⟨b, off + j, none⟩ := by
  unfold Addr.add
  split
  ·rename_i h; subst h; rfl
  ·rfl
 rw [e2, hc]
 simp [strCells, hjl] at hj
 rw [hj]
theorem z_cT (ao bo : Option Addr) (ca cb : Nat) (xs ys : List ByteArray) (w : World) (hla : xs.length ≤ 1048576) (hlb : ys.length ≤ 1048576) (ha : StrsAt 0 w.heap.size w ao xs) (hb : StrsAt 0 w.heap.size w bo ys) :
  Calls Tryz.prog 104 #[.slice ao xs.length ca, .slice bo ys.length cb] w fun e w' => ∃ v, e = .returned v ∧ Below w.heap.size w w' ∧ z_be w.heap.size w'.heap.size w' v (uniU xs ys) := by
 obtain ⟨i0, hi0, hz0, hz1, hz2⟩ := info_parts Tryz.infoStr
 have HIA : Hid (StrsAt 0 w.heap.size w ao xs) := ha
 have HIB : Hid (StrsAt 0 w.heap.size w bo ys) := hb
 have HM : Hid ((w.alloc (.cells #[] 9)).ownsRow w.heap.size 9 1 (.slice (some ⟨w.heap.size, 0, none⟩) 0 0) 0 []) := World.ownsRow_made w #[] 0 (Nat.le_refl _) (by decide) rfl
 have HM1 : Hid (Below w.heap.size w (w.alloc (.cells #[] 9))) := (Below.refl _ _).alloc (Nat.le_refl _) _
 clear ha hb
 go_enter Tryz.func104, Tryz.ntmps104
 go_upto_region 1 with fail
 go_cut [5] from 7 to 9 (fun v wx => Hid (wx.ownsRow w.heap.size 9 1 v xs.length (strCells xs)) ∧ Hid (Below w.heap.size w wx))
 case first =>
  by_cases h0 : 0 < xs.length
  ·obtain ⟨b, off, rfl, hB, _⟩ := HIA.out 0 h0
   have HC : Hid (∀ j u, (strCells xs)[j]? = some u → (w.alloc (.cells #[] 9)).cell? ((⟨b, off, none⟩ : Addr).add j) = some u) := z_ji (HIA.out.below HM1.out)
   go_wp2_with (at_builtin; refine wpList_append_own _ rfl _ _ 45 rfl w.heap.size 9 i0 (.string ByteArray.empty) 1 16 Tryz.underlying45 hi0 hz0 hz1 hz2 rfl (by decide) _ _ _ rfl HM.out ⟨b, off, none⟩ xs.length _ (strCells xs) rfl (by simp [strCells]) HC.out (by intro u hu; simp [strCells] at hu; obtain ⟨a, _, rfl⟩ := hu; rfl) (by unfold maxLen; omega) (by omega) (by simp) ?_; intro v' w1 hown hgrow _; rw [Nat.zero_add, List.nil_append] at hown; have HO : Hid (w1.ownsRow w.heap.size 9 1 v' xs.length (strCells xs)) := hown; have HB : Hid (Below w.heap.size w w1) := HM1.out.grown hgrow (by simp) (fun j hj => (HM.out.lt _ hj).1); clear hown hgrow)
   go_meet
   case rel => exact ⟨HO, HB⟩
  ·have e : xs = [] := List.length_eq_zero_iff.1 (by omega)
   subst e
   cases ao with
   | none =>
    go_wp2
    go_meet
    case rel => exact ⟨HM, HM1⟩
   | some ad =>
    go_wp2_with (at_builtin; refine wpList_append_own _ rfl _ _ 45 rfl w.heap.size 9 i0 (.string ByteArray.empty) 1 16 Tryz.underlying45 hi0 hz0 hz1 hz2 rfl (by decide) _ _ _ rfl HM.out ad 0 _ [] rfl rfl (by intro j u hj; simp at hj) (by intro u hu; simp at hu) (by unfold maxLen; omega) (by omega) (by simp) ?_; intro v' w1 hown hgrow _; have HO : Hid (w1.ownsRow w.heap.size 9 1 v' 0 []) := hown; have HB : Hid (Below w.heap.size w w1) := HM1.out.grown hgrow (by simp) (fun j hj => (HM.out.lt _ hj).1); clear hown hgrow)
    go_meet
    case rel => exact ⟨HO, HB⟩
 case rest =>
  obtain ⟨HO0, HB0⟩ := hcut
  clear HM HM1
  go_wp2_with fail
  go_loopw [5, 6] (fun v ix wr => ∃ k : Nat, k ≤ ys.length ∧ ix = .int .i64 k ∧ Hid (wr.ownsRow w.heap.size 9 1 v (uniU xs (ys.take k)).length (strCells (uniU xs (ys.take k)))) ∧ Hid (Below w.heap.size w wr)) (fun _ ix _ => ys.length - (intOf ix).toNat)
  case atStart => exact ⟨0, Nat.zero_le _, rfl, HO0, HB0⟩
  case round =>
   obtain ⟨k, hk, rfl, HO, HB⟩ := hrel
   have hwsz := HB.out.size
   by_cases hlt : k < ys.length
   ·obtain ⟨b, off, rfl, hB, hc0⟩ := HIB.out.at k hlt
    have hc1 := (HB.out.cell (p := ⟨b, off + k, none⟩) (by show b < _; omega)).trans hc0
    have hfl : (uniU xs (ys.take k)).length ≤ 2097152 := by have := z_by (ys.take k) xs; simp at this; omega
    have hsn := z_hV xs ys k hlt
    clear hc0
    obtain ⟨x, hx⟩ : ∃ x, x = ys[k] := ⟨_, rfl⟩
    obtain ⟨A, hA⟩ : ∃ A, A = uniU xs (ys.take k) := ⟨_, rfl⟩
    rw [← hA] at HO hfl hsn
    rw [← hx] at hsn hc1
    clear hA hx
    obtain ⟨vo, vc, rfl, hvc, hvs⟩ := StrsAt.of_owns HO.out
    have HVS : Hid (StrsAt w.heap.size wr.heap.size wr vo A) := hvs
    clear hvs
    cases hh : hasB A x with
    | true =>
     rw [addU, if_pos hh] at hsn
     have HF : Hid (uniU xs (ys.take (k + 1)) = A) := hsn
     clear hsn
     go_wp2_with (go_at_call 141; refine (z_aF vo vc A _ _ wr (by omega) (HVS.out.mono (Nat.zero_le _) (Nat.le_refl _))).mono ?_; rintro e wr ⟨rfl, rfl⟩; rw [hh])
     go_roundw
     case rel => exact ⟨k + 1, by omega, by go_num, (show Hid _ by rw [HF.out]; exact HO), HB⟩
     case measure => simp [intOf]; omega
    | false =>
     rw [addU, if_neg (by rw [hh]; decide)] at hsn
     have HF : Hid (uniU xs (ys.take (k + 1)) = A ++ [x]) := hsn
     clear hsn
     go_wp2_with (first | (go_at_call 141; refine (z_aF vo vc A _ _ wr (by omega) (HVS.out.mono (Nat.zero_le _) (Nat.le_refl _))).mono ?_; rintro e wr ⟨rfl, rfl⟩; rw [hh]) | (at_builtin; refine wpList_append_own _ rfl _ _ 45 rfl w.heap.size 9 i0 (.string ByteArray.empty) 1 16 Tryz.underlying45 hi0 hz0 hz1 hz2 rfl (by decide) _ _ _ rfl (HO.out.alloc _) ⟨wr.heap.size, 0, none⟩ 1 1 [.string x] rfl rfl (cell_one_new _ _ _) (fun u hu => by simp at hu; subst hu; rfl) (by unfold maxLen; omega) (by omega) (by simp; omega) ?_; intro v' w3 hown' hgrow3 hnil3; have X := T_of HB.out hwsz HO.out hown' hgrow3; clear hown' hgrow3 hnil3))
     go_roundw
     case rel => exact ⟨k + 1, by omega, by go_num, (show Hid _ by rw [HF.out]; exact X.out.1), X.out.2⟩
     case measure => simp [intOf]; omega
   ·have e0 : ys.take k = ys := List.take_of_length_le (by omega)
    rw [e0] at HO
    go_wp2
    go_ret
    obtain ⟨ao', cap', e1, e2, e3⟩ := StrsAt.of_owns HO.out
    exact ⟨_, rfl, HB.out, ao', cap', e1, e2, e3⟩
end
section
open Go.RowKit
def z_aY (ls : List Ln) : List ByteArray := uniU [] (z_ax (ls.map (·.2.to)))
def z_bm (ls : List Ln) : List ByteArray := uniU [] ((ls.filter (fun l => l.1 == 5)).map (·.2.name))
theorem z_jE (ls : List Ln) (k : Nat) (h : k < ls.length) (he : ls[k].2.to.size = 0) : z_aY (ls.take (k + 1)) = z_aY (ls.take k) := by
 rw [z_aY, z_aY, List.take_succ_eq_append_getElem h, List.map_append, z_ax, List.filter_append, ← z_ax]
 have : List.filter (fun s : ByteArray => decide (s.size ≠ 0)) (List.map (fun x : Ln => x.2.to) [ls[k]]) = [] := by
  rw [List.map_cons, List.filter_cons_of_neg (by simp only [decide_eq_true_eq]; omega)]; rfl
 rw [this, List.append_nil]
theorem z_kR (ls : List Ln) (k : Nat) (h : k < ls.length) (he : ls[k].2.to.size ≠ 0) : z_aY (ls.take (k + 1)) = uniU (z_aY (ls.take k)) [ls[k].2.to] := by
 rw [z_aY, z_aY, List.take_succ_eq_append_getElem h, List.map_append, z_ax, List.filter_append, ← z_ax]
 have : List.filter (fun s : ByteArray => decide (s.size ≠ 0)) (List.map (fun x : Ln => x.2.to) [ls[k]]) = [ls[k].2.to] := by
  rw [List.map_cons, List.filter_cons_of_pos (by simp only [decide_eq_true_eq]; omega)]; rfl
 rw [this, z_bJ]
theorem z_jk (ls : List Ln) (k : Nat) (h : k < ls.length) (he : (ls[k].1 == 5) = false) : z_bm (ls.take (k + 1)) = z_bm (ls.take k) := by
 rw [z_bm, z_bm, List.take_succ_eq_append_getElem h, List.filter_append]
 have : List.filter (fun l : Ln => l.1 == 5) [ls[k]] = [] := by rw [List.filter_cons_of_neg (by rw [he]; decide)]; rfl
 rw [this, List.append_nil]
theorem z_ma (ls : List Ln) (k : Nat) (h : k < ls.length) (he : (ls[k].1 == 5) = true) : z_bm (ls.take (k + 1)) = uniU (z_bm (ls.take k)) [ls[k].2.name] := by
 rw [z_bm, z_bm, List.take_succ_eq_append_getElem h, List.filter_append]
 have : List.filter (fun l : Ln => l.1 == 5) [ls[k]] = [ls[k]] := by rw [List.filter_cons_of_pos (p := fun l : Ln => l.1 == 5) he]; rfl
 rw [this, List.map_append, z_bJ]; rfl
theorem z_dG (ls : List Ln) : (z_aY ls).length ≤ ls.length := by
 have h1 := z_by (z_ax (ls.map (·.2.to))) []
 have h2 : (z_ax (ls.map (·.2.to))).length ≤ (ls.map (·.2.to)).length := List.length_filter_le _ _
 simp only [List.length_nil, List.length_map, Nat.zero_add] at h1 h2
 exact Nat.le_trans h1 h2
theorem z_ft (ls : List Ln) : (z_bm ls).length ≤ ls.length := by
 have h1 := z_by ((ls.filter (fun l => l.1 == 5)).map (·.2.name)) []
 have h2 : (ls.filter (fun l => l.1 == 5)).length ≤ ls.length := List.length_filter_le _ _
 simp only [List.length_nil, List.length_map, Nat.zero_add] at h1
 exact Nat.le_trans h1 h2
theorem z_g1 (w : World) (x : ByteArray) (t : TypeId) (W : World) (hW : W = w.alloc (.cells #[.string x] t)) : StrsAt w.heap.size W.heap.size W (some ⟨w.heap.size, 0, none⟩) [x] := by
 subst hW
 exact z_ck w [x] t
theorem z_c4 {A A' B : Nat} {w : World} {v : Value} {ss : List ByteArray} (h : z_be A B w v ss) (ha : A' ≤ A) : z_be A' B w v ss := by
 obtain ⟨ao, c, e, hc, hs⟩ := h
 exact ⟨ao, c, e, hc, hs.mono ha (Nat.le_refl _)⟩
theorem z_f9 (ao : Option Addr) (ca : Nat) (ls : List Ln) (w : World) (hl : ls.length ≤ 60) (hi : LinesAt w.heap.size w ao ls) :
  Calls Tryz.prog 143 #[.slice ao ls.length ca] w fun e w' => ∃ v, e = .returned v ∧ Below w.heap.size w w' ∧ z_be w.heap.size w'.heap.size w' v (z_aY ls) := by
 have HI : Hid (LinesAt w.heap.size w ao ls) := hi
 clear hi
 go_enter Tryz.func143, Tryz.ntmps143
 go_wp2
 go_loopw [3, 4] (fun v ix wr => ∃ k : Nat, k ≤ ls.length ∧ ix = .int .i64 k ∧ Hid (z_be w.heap.size wr.heap.size wr v (z_aY (ls.take k))) ∧ Hid (Below w.heap.size w wr)) (fun _ ix _ => ls.length - (intOf ix).toNat)
 case atStart => exact ⟨0, Nat.zero_le _, rfl, ⟨some ⟨w.heap.size, 0, none⟩, 0, rfl, Nat.le_refl _, StrsAt.nil _ _ _ _⟩, (Below.refl _ _).alloc (Nat.le_refl _) _⟩
 case round =>
  obtain ⟨k, hk, rfl, HV, HB⟩ := hrel
  have hwsz := HB.out.size
  by_cases hlt : k < ls.length
  ·obtain ⟨b, off, rfl, hB, hla⟩ := HI.out k hlt
   obtain ⟨ba, cc, _, c0, c1, c2, c3, c4, _⟩ := hla.below HB.out hB
   clear c3 c4 hla
   have hfl : (z_aY (ls.take k)).length ≤ 60 := by have := z_dG (ls.take k); simp at this; omega
   by_cases he : ls[k].2.to.size = 0
   ·have HF : Hid (z_aY (ls.take (k + 1)) = z_aY (ls.take k)) := z_jE ls k hlt he
    have hq : ls[k].2.to = ByteArray.empty := z_bF he
    rw [hq] at c1
    clear he hq c0 c2
    go_wp2
    go_roundw
    case rel => exact ⟨k + 1, by omega, by go_num, (show Hid _ by rw [HF.out]; exact HV), HB⟩
    case measure => simp [intOf]; omega
   ·skip
    obtain ⟨x, hx⟩ : ∃ x, x = ls[k].2.to := ⟨_, rfl⟩
    obtain ⟨A, hA⟩ : ∃ A, A = z_aY (ls.take k) := ⟨_, rfl⟩
    have HF : Hid (z_aY (ls.take (k + 1)) = uniU A [x]) := by show _ = _; rw [hA, hx]; exact z_kR ls k hlt he
    rw [← hA] at HV hfl
    rw [← hx] at c1
    have he2 : x.size ≠ 0 := by rw [hx]; exact he
    obtain ⟨hq, hq2⟩ := z_cs he2
    clear hx he he2 c0 c2
    clear hA
    obtain ⟨vo, vc, rfl, hvc, hvs⟩ := HV.out
    have HVS : Hid (StrsAt w.heap.size wr.heap.size wr vo A) := hvs
    clear hvs
    go_wp2_with (go_at_call 104; refine (z_cT vo (some ⟨wr.heap.size, 0, none⟩) vc 1 A [x] _ (by omega) (by simp) (HVS.out.mono (Nat.zero_le _) (Nat.le_refl _) |>.later ((Below.refl _ _).alloc (Nat.le_refl _) _)) ((z_g1 wr x _ _ rfl).mono (Nat.zero_le _) (Nat.le_refl _))).mono ?_; rintro e w3 ⟨v3, rfl, hb3, hv3⟩; have HB3 : Hid (Below w.heap.size w w3) := (HB.out.alloc hwsz _).trans (hb3.mono (by simp; omega)); have HV3 : Hid (z_be w.heap.size w3.heap.size w3 v3 (uniU A [x])) := z_c4 hv3 (by simp; omega); clear hb3 hv3)
    go_roundw
    case rel => exact ⟨k + 1, by omega, by go_num, (show Hid _ by rw [HF.out]; exact HV3), HB3⟩
    case measure => simp [intOf]; omega
  ·have e0 : ls.take k = ls := List.take_of_length_le (by omega)
   rw [e0] at HV
   go_wp2
   go_ret
   exact ⟨_, rfl, HB.out, HV.out⟩
theorem z_gs (ao : Option Addr) (ca : Nat) (ls : List Ln) (w : World) (hl : ls.length ≤ 60) (hi : LinesAt w.heap.size w ao ls) :
  Calls Tryz.prog 145 #[.slice ao ls.length ca] w fun e w' => ∃ v, e = .returned v ∧ Below w.heap.size w w' ∧ z_be w.heap.size w'.heap.size w' v (z_bm ls) := by
 have HI : Hid (LinesAt w.heap.size w ao ls) := hi
 clear hi
 go_enter Tryz.func145, Tryz.ntmps145
 go_wp2
 go_loopw [3, 4] (fun v ix wr => ∃ k : Nat, k ≤ ls.length ∧ ix = .int .i64 k ∧ Hid (z_be w.heap.size wr.heap.size wr v (z_bm (ls.take k))) ∧ Hid (Below w.heap.size w wr)) (fun _ ix _ => ls.length - (intOf ix).toNat)
 case atStart => exact ⟨0, Nat.zero_le _, rfl, ⟨some ⟨w.heap.size, 0, none⟩, 0, rfl, Nat.le_refl _, StrsAt.nil _ _ _ _⟩, (Below.refl _ _).alloc (Nat.le_refl _) _⟩
 case round =>
  obtain ⟨k, hk, rfl, HV, HB⟩ := hrel
  have hwsz := HB.out.size
  by_cases hlt : k < ls.length
  ·obtain ⟨b, off, rfl, hB, hla⟩ := HI.out k hlt
   obtain ⟨ba, cc, _, c0, c1, c2, c3, c4, _⟩ := hla.below HB.out hB
   clear c3 c4 hla
   have hfl : (z_bm (ls.take k)).length ≤ 60 := by have := z_ft (ls.take k); simp at this; omega
   cases he : (ls[k].1 == 5) with
   | false =>
    have HF : Hid (z_bm (ls.take (k + 1)) = z_bm (ls.take k)) := z_jk ls k hlt he
    clear c1 c2
    go_wp2
    go_roundw
    case rel => exact ⟨k + 1, by omega, by go_num, (show Hid _ by rw [HF.out]; exact HV), HB⟩
    case measure => simp [intOf]; omega
   | true =>
    obtain ⟨x, hx⟩ : ∃ x, x = ls[k].2.name := ⟨_, rfl⟩
    obtain ⟨A, hA⟩ : ∃ A, A = z_bm (ls.take k) := ⟨_, rfl⟩
    have HF : Hid (z_bm (ls.take (k + 1)) = uniU A [x]) := by show _ = _; rw [hA, hx]; exact z_ma ls k hlt he
    rw [← hA] at HV hfl
    rw [← hx] at c2
    clear hx c1
    clear hA
    obtain ⟨vo, vc, rfl, hvc, hvs⟩ := HV.out
    have HVS : Hid (StrsAt w.heap.size wr.heap.size wr vo A) := hvs
    clear hvs
    go_wp2_with (go_at_call 104; refine (z_cT vo (some ⟨wr.heap.size, 0, none⟩) vc 1 A [x] _ (by omega) (by simp) (HVS.out.mono (Nat.zero_le _) (Nat.le_refl _) |>.later ((Below.refl _ _).alloc (Nat.le_refl _) _)) ((z_g1 wr x _ _ rfl).mono (Nat.zero_le _) (Nat.le_refl _))).mono ?_; rintro e w3 ⟨v3, rfl, hb3, hv3⟩; have HB3 : Hid (Below w.heap.size w w3) := (HB.out.alloc hwsz _).trans (hb3.mono (by simp; omega)); have HV3 : Hid (z_be w.heap.size w3.heap.size w3 v3 (uniU A [x])) := z_c4 hv3 (by simp; omega); clear hb3 hv3)
    go_roundw
    case rel => exact ⟨k + 1, by omega, by go_num, (show Hid _ by rw [HF.out]; exact HV3), HB3⟩
    case measure => simp [intOf]; omega
  ·have e0 : ls.take k = ls := List.take_of_length_le (by omega)
   rw [e0] at HV
   go_wp2
   go_ret
   exact ⟨_, rfl, HB.out, HV.out⟩
end
section
open Go.RowKit
def argN (l : Ln) : List ByteArray := l.2.args.filter z_ac
def z_bk (ls : List Ln) : List ByteArray := uniU (z_aY ls) (ls.flatMap argN)
theorem z_l7 (xs : List ByteArray) (k : Nat) (h : k < xs.length) : (xs.take (k + 1)).filter z_ac = (xs.take k).filter z_ac ++ (if z_ac xs[k] = true then [xs[k]] else []) := by
 rw [List.take_succ_eq_append_getElem h, List.filter_append]
 cases hh : z_ac xs[k] <;> simp [hh]
theorem z_lu (ls : List Ln) (k : Nat) (h : k < ls.length) : (ls.take (k + 1)).flatMap argN = (ls.take k).flatMap argN ++ argN ls[k] := by
 rw [List.take_succ_eq_append_getElem h, List.flatMap_append]; simp
theorem z_j3 : ∀ (ls : List Ln), (∀ l ∈ ls, l.2.args.length ≤ 100) → (ls.flatMap argN).length ≤ ls.length * 100
 | [], _ => by simp
 | l :: r, h => by
  have h1 := h l (by simp)
  have h2 := z_j3 r (fun x hx => h x (by simp [hx]))
  have h3 : (argN l).length ≤ l.2.args.length := List.length_filter_le _ _
  rw [List.flatMap_cons, List.length_append, List.length_cons]; omega
theorem z_gS (ao : Option Addr) (ca : Nat) (ls : List Ln) (w : World) (hl : ls.length ≤ 60) (hi : LinesAt w.heap.size w ao ls) (hz : ∀ l ∈ ls, LnSz l) (ha : ∀ l ∈ ls, l.2.args.length ≤ 100) :
  Calls Tryz.prog 144 #[.slice ao ls.length ca] w fun e w' => ∃ v, e = .returned v ∧ Below w.heap.size w w' ∧ z_be w.heap.size w'.heap.size w' v (z_bk ls) := by
 have HI : Hid (LinesAt w.heap.size w ao ls) := hi
 have HZ : Hid (∀ l ∈ ls, LnSz l) := hz
 have HA : Hid (∀ l ∈ ls, l.2.args.length ≤ 100) := ha
 clear hi hz ha
 go_enter Tryz.func144, Tryz.ntmps144
 go_wp2_with (go_at_call 143; refine (z_f9 ao ca ls w hl HI.out).mono ?_; rintro e w1 ⟨v1, rfl, hb1, hv1⟩; have HB1 : Hid (Below w.heap.size w w1) := hb1; have HV1 : Hid (z_be w.heap.size w1.heap.size w1 v1 (z_aY ls)) := hv1; clear hb1 hv1)
 go_loopw [3, 4] (fun v ix wr => ∃ k : Nat, k ≤ ls.length ∧ ix = .int .i64 k ∧ Hid (z_be w.heap.size wr.heap.size wr v (uniU (z_aY ls) ((ls.take k).flatMap argN))) ∧ Hid (Below w.heap.size w wr)) (fun _ ix _ => ls.length - (intOf ix).toNat)
 case atStart => exact ⟨0, Nat.zero_le _, rfl, HV1, HB1⟩
 case round =>
  obtain ⟨k, hk, rfl, HV, HB⟩ := hrel
  clear HV1 HB1
  obtain ⟨W1, hW1⟩ : ∃ W1, W1 = wr := ⟨_, rfl⟩
  subst hW1
  by_cases hlt : k < ls.length
  ·obtain ⟨b, off, rfl, hB, hla⟩ := HI.out k hlt
   obtain ⟨aa, ac, hac, _, _, _, c3, _, hss⟩ := hla
   have hla100 := HA.out _ (List.getElem_mem hlt)
   have hszl := (HZ.out _ (List.getElem_mem hlt)).args
   obtain ⟨xs, hxs⟩ : ∃ xs, xs = ls[k].2.args := ⟨_, rfl⟩
   obtain ⟨A, hA⟩ : ∃ A, A = uniU (z_aY ls) ((ls.take k).flatMap argN) := ⟨_, rfl⟩
   have HF : Hid (uniU (z_aY ls) ((ls.take (k + 1)).flatMap argN) = uniU A (xs.filter z_ac)) := by
    show _ = _; rw [hA, hxs, z_lu ls k hlt, z_bJ]; rfl
   have hAl : A.length ≤ 6060 := by
    rw [hA]
    have h1 := z_by ((ls.take k).flatMap argN) (z_aY ls)
    have h2 := z_dG ls
    have h3 := z_j3 (ls.take k) (fun l hm => HA.out l (List.mem_of_mem_take hm))
    rw [List.length_take] at h3
    omega
   rw [← hA] at HV
   rw [← hxs] at hac c3 hss hla100 hszl
   have HSS : Hid (StrsAt 0 w.heap.size w aa xs) := hss
   have HZX : Hid (∀ s ∈ xs, s.size ≤ 1048576) := hszl
   have hxl : xs.length ≤ 100 := hla100
   clear hA hxs hss hszl hla100
   go_wp2_with fail
   go_loopw [3, 5] (fun v jx wr => ∃ j : Nat, j ≤ xs.length ∧ jx = .int .i64 j ∧ Hid (z_be w.heap.size wr.heap.size wr v (uniU A ((xs.take j).filter z_ac))) ∧ Hid (Below w.heap.size w wr)) (fun _ jx _ => xs.length - (intOf jx).toNat)
   case atStart => exact ⟨0, Nat.zero_le _, rfl, HV, HB⟩
   case round =>
    obtain ⟨j, hj, rfl, HV2, HB2⟩ := hrel
    have hwsz := HB2.out.size
    have d3 := (HB2.out.cell (p := ⟨b, off + k * 5 + 3, none⟩) hB).trans c3
    by_cases hjt : j < xs.length
    ·obtain ⟨b2, off2, rfl, hB2, x0⟩ := HSS.out.at j hjt
     have x1 := (HB2.out.cell (p := ⟨b2, off2 + j, none⟩) (by show b2 < _; omega)).trans x0
     have hszx := HZX.out _ (List.getElem_mem hjt)
     have hsn := z_l7 xs j hjt
     have hfl : (uniU A ((xs.take j).filter z_ac)).length ≤ 7000 := by
      have h1 := z_by ((xs.take j).filter z_ac) A
      have h2 : ((xs.take j).filter z_ac).length ≤ (xs.take j).length := List.length_filter_le _ _
      simp at h2
      omega
     clear x0
     cases hn : z_ac xs[j] with
     | false =>
      rw [hn, if_neg (by decide), List.append_nil] at hsn
      have HF2 : Hid ((xs.take (j + 1)).filter z_ac = (xs.take j).filter z_ac) := hsn
      clear hsn
      go_wp2_with (go_at_call 140; refine (z_a _ wr (by omega)).mono ?_; rintro e wr ⟨rfl, rfl⟩; rw [hn])
      go_roundw
      case rel => exact ⟨j + 1, by omega, by go_num, (show Hid _ by rw [HF2.out]; exact HV2), HB2⟩
      case measure => simp [intOf]; omega
     | true =>
      rw [hn, if_pos rfl] at hsn
      obtain ⟨x, hx⟩ : ∃ x, x = xs[j] := ⟨_, rfl⟩
      obtain ⟨C, hC⟩ : ∃ C, C = uniU A ((xs.take j).filter z_ac) := ⟨_, rfl⟩
      have HF2 : Hid (uniU A ((xs.take (j + 1)).filter z_ac) = uniU C [x]) := by show _ = _; rw [hsn, z_bJ, hC, hx]
      rw [← hC] at HV2 hfl
      rw [← hx] at x1 hn hszx
      clear hsn hC hx
      obtain ⟨vo, vc, rfl, hvc, hvs⟩ := HV2.out
      have HVS : Hid (StrsAt w.heap.size wr.heap.size wr vo C) := hvs
      clear hvs
      go_wp2_with (first | (go_at_call 140; refine (z_a _ wr (by omega)).mono ?_; rintro e wr ⟨rfl, rfl⟩; rw [hn]) | (go_at_call 104; refine (z_cT vo (some ⟨wr.heap.size, 0, none⟩) vc 1 C [x] _ (by omega) (by simp) (HVS.out.mono (Nat.zero_le _) (Nat.le_refl _) |>.later ((Below.refl _ _).alloc (Nat.le_refl _) _)) ((z_g1 wr x _ _ rfl).mono (Nat.zero_le _) (Nat.le_refl _))).mono ?_; rintro e w3 ⟨v3, rfl, hb3, hv3⟩; have HB3 : Hid (Below w.heap.size w w3) := (HB2.out.alloc hwsz _).trans (hb3.mono (by simp; omega)); have HV3 : Hid (z_be w.heap.size w3.heap.size w3 v3 (uniU C [x])) := z_c4 hv3 (by simp; omega); clear hb3 hv3))
      go_roundw
      case rel => exact ⟨j + 1, by omega, by go_num, (show Hid _ by rw [HF2.out]; exact HV3), HB3⟩
      case measure => simp [intOf]; omega
    ·have e0 : xs.take j = xs := List.take_of_length_le (by omega)
     rw [e0] at HV2
     go_wp2
     go_roundw
     case rel => exact ⟨k + 1, by omega, by go_num, (show Hid _ by rw [HF.out]; exact HV2), HB2⟩
     case measure => simp [intOf]; omega
  ·have e0 : ls.take k = ls := List.take_of_length_le (by omega)
   rw [e0] at HV
   go_wp2
   go_ret
   exact ⟨_, rfl, HB.out, HV.out⟩
end
section
open Go.RowKit
def CObj (w : World) (p : Nat) (L : Value) (a ln fc : Int) : Prop := w.heap[p]? = some (.cells #[L, .int .i64 a, .int .i64 ln, .int .i64 fc] 102 (0, 0))
section
variable {w w' : World} {p : Nat} {L : Value} {a ln fc : Int}
theorem CObj.lt (h : CObj w p L a ln fc) : p < w.heap.size := (Array.getElem?_eq_some_iff.1 h).1
theorem CObj.c0 (h : CObj w p L a ln fc) : w.cell? ⟨p, 0, none⟩ = some L := by rw [cell_of_row _ _ 0 _ _ _ h]; rfl
theorem CObj.c1 (h : CObj w p L a ln fc) : w.cell? ⟨p, 1, none⟩ = some (.int .i64 a) := by rw [cell_of_row _ _ 1 _ _ _ h]; rfl
theorem CObj.c2 (h : CObj w p L a ln fc) : w.cell? ⟨p, 2, none⟩ = some (.int .i64 ln) := by rw [cell_of_row _ _ 2 _ _ _ h]; rfl
theorem CObj.c3 (h : CObj w p L a ln fc) : w.cell? ⟨p, 3, none⟩ = some (.int .i64 fc) := by rw [cell_of_row _ _ 3 _ _ _ h]; rfl
theorem CObj.fz (h : CObj w p L a ln fc) (j : Nat) : w.frozen? ⟨p, j, none⟩ = false := frozen_of_row _ _ j _ _ h
theorem CObj.keep (h : CObj w p L a ln fc) (hk : w'.heap[p]? = w.heap[p]?) : CObj w' p L a ln fc := hk.trans h
theorem CObj.below (h : CObj w p L a ln fc) (hb : Below w.heap.size w w') : CObj w' p L a ln fc := h.keep (hb.block p h.lt)
theorem CObj.fault (h : CObj w p L a ln fc) (x y : Int) : CObj ((w.setCell ⟨p, 2, none⟩ (.int .i64 x)).setCell ⟨p, 3, none⟩ (.int .i64 y)) p L a x y :=
 heap_setCell_same _ p 3 _ _ _ (heap_setCell_same w p 2 _ _ _ h)
theorem CObj.at (h : CObj w p L a ln fc) (x : Int) : CObj (w.setCell ⟨p, 1, none⟩ (.int .i64 x)) p L x ln fc := heap_setCell_same w p 1 _ _ _ h
end
theorem z_cl (p : Nat) (L : Value) (a : Nat) (ln : Int) (c : Int) (w : World) (h : CObj w p L a ln 0) (ha : a ≤ 1000) :
  Calls Tryz.prog 68 #[.pointer (some ⟨p, 0, none⟩), .int .i64 c] w fun e w' => e = .returned (.tuple #[]) ∧ CObj w' p L a ((a : Int) + 1) c ∧ w.grownBy w' (some p) := by
 have c1 := h.c1
 have c2 := h.c2
 have c3 := h.c3
 have f2 := h.fz 2
 have f3 := h.fz 3
 have HH : Hid (CObj w p L a ln 0) := h
 clear h
 go_enter Tryz.func68, Tryz.ntmps68
 go_wp2
 go_end0
 exact ⟨rfl, HH.out.fault _ _, z_ah (z_aj p 2 _) (z_aj p 3 _) (.inl rfl)⟩
theorem z_f2 (p : Nat) (L : Value) (a : Nat) (ln fc : Int) (c : Int) (w : World) (h : CObj w p L a ln fc) (hf : (fc == 0) = false) :
  Calls Tryz.prog 68 #[.pointer (some ⟨p, 0, none⟩), .int .i64 c] w fun e w' => e = .returned (.tuple #[]) ∧ w' = w := by
 have c3 := h.c3
 clear h
 go_enter Tryz.func68, Tryz.ntmps68
 go_wp2
 go_end0
 exact ⟨rfl, rfl⟩
end
section
open Go.RowKit
def z_dF (ks ss : List ByteArray) : Bool := ss.all fun s => !z_ac s || hasB ks s
theorem z_kJ (ks ss : List ByteArray) (k : Nat) (h : k < ss.length) : z_dF ks (ss.take (k + 1)) = (z_dF ks (ss.take k) && (!z_ac ss[k] || hasB ks ss[k])) := by
 rw [List.take_succ_eq_append_getElem h, z_dF, List.all_append]; simp [z_dF]
theorem z_mT (p : Nat) (L : Value) (a : Nat) (ln : Int) (k : Int) (tt nm ud : ByteArray) (aa ko : Option Addr) (ca ck : Nat) (args ks : List ByteArray) (w : World) (hc : CObj w p L a ln 0) (ha : a ≤ 1000) (hk : (k != 1) = true)
  (hl : args.length ≤ 1048576) (hz : ∀ s ∈ args, s.size ≤ 1048576) (hkl : ks.length ≤ 1048576) (hA : StrsAt 0 p w aa args) (hK : StrsAt (p + 1) w.heap.size w ko ks) :
  Calls Tryz.prog 101 #[.pointer (some ⟨p, 0, none⟩), .agg #[.int .i64 k, .string tt, .string nm, .slice aa args.length ca, .string ud], .slice ko ks.length ck] w fun e w' => e = .returned (.tuple #[]) ∧ ∃ ln' fc' : Int, CObj w' p L a ln' fc' ∧ (fc' == 0) = z_dF ks args ∧ w.grownBy w' (some p) := by
 have hp := hc.lt
 obtain ⟨W0, hW0⟩ : ∃ W0, W0 = w.alloc (.cells #[.int .i64 k, .string tt, .string nm, .slice aa args.length ca, .string ud] 49) := ⟨_, rfl⟩
 have hB0 : Below w.heap.size w W0 := by rw [hW0]; exact (Below.refl _ _).alloc (Nat.le_refl _) _
 have HC0 : Hid (CObj W0 p L a ln 0) := hc.below hB0
 have HA : Hid (StrsAt 0 p W0 aa args) := hA.below (hB0.mono (Nat.le_of_lt hp))
 have HK : Hid (StrsAt (p + 1) w.heap.size W0 ko ks) := hK.below hB0
 have HG0 : Hid (w.grownBy W0 (some p)) := z_bx hB0
 have hs0 : w.heap.size < W0.heap.size := by rw [hW0]; simp
 have b0 : W0.cell? ⟨w.heap.size, 0, none⟩ = some (.int .i64 k) := by rw [hW0]; simp
 have b3 : W0.cell? ⟨w.heap.size, 3, none⟩ = some (.slice aa args.length ca) := by rw [hW0]; simp
 have HZ : Hid (∀ s ∈ args, s.size ≤ 1048576) := hz
 have HW0 : Hid (w.alloc (.cells #[.int .i64 k, .string tt, .string nm, .slice aa args.length ca, .string ud] 49) = W0) := hW0.symm
 clear hW0 hB0 hc hA hK hz
 go_enter Tryz.func101, Tryz.ntmps101
 go_wp2_with fail
 rw [HW0.out]
 go_loopw [6] (fun ix wr => ∃ (j : Nat) (ln' fc' : Int), j ≤ args.length ∧ ix = .int .i64 j ∧ Hid (CObj wr p L a ln' fc') ∧ Hid ((fc' == 0) = z_dF ks (args.take j)) ∧ Hid (W0.grownBy wr (some p))) (fun ix _ => args.length - (intOf ix).toNat)
 case atStart => exact ⟨0, ln, 0, Nat.zero_le _, rfl, HC0, rfl, z_bY⟩
 case round =>
  obtain ⟨j, ln', fc', hj, rfl, HC, HU, HG⟩ := hrel
  have hgb := HG.out.block w.heap.size hs0 (by simp; omega)
  have d0 : wr.cell? ⟨w.heap.size, 0, none⟩ = some (.int .i64 k) := (World.cell?_of_block hgb).trans b0
  have d3 : wr.cell? ⟨w.heap.size, 3, none⟩ = some (.slice aa args.length ca) := (World.cell?_of_block hgb).trans b3
  clear hgb
  by_cases hjt : j < args.length
  ·have HA2 : Hid (StrsAt 0 p wr aa args) := HA.out.grown HG.out (by omega) (fun i hi => by cases hi; right; exact Nat.le_refl _)
   have HK2 : Hid (StrsAt (p + 1) w.heap.size wr ko ks) := HK.out.grown HG.out (by omega) (fun i hi => by cases hi; left; exact Nat.lt_succ_self _)
   obtain ⟨b2, off2, rfl, hB2, x1⟩ := HA2.out.at j hjt
   have hszx := HZ.out _ (List.getElem_mem hjt)
   have hsn := z_kJ ks args j hjt
   obtain ⟨x, hx⟩ : ∃ x, x = args[j] := ⟨_, rfl⟩
   rw [← hx] at hsn x1 hszx
   clear hx
   cases hn : z_ac x with
   | false =>
    have HU2 : Hid ((fc' == 0) = z_dF ks (args.take (j + 1))) := by show _ = _; rw [hsn, hn, HU.out]; simp
    clear hsn
    go_wp2_with (go_at_call 140; refine (z_a _ wr (by omega)).mono ?_; rintro e wr ⟨rfl, rfl⟩; rw [hn])
    go_roundw
    case rel => exact ⟨j + 1, ln', fc', by omega, by go_num, HC, HU2, HG⟩
    case measure => simp [intOf]; omega
   | true =>
    cases hh : hasB ks x with
    | true =>
     have HU2 : Hid ((fc' == 0) = z_dF ks (args.take (j + 1))) := by show _ = _; rw [hsn, hn, hh, HU.out]; simp
     clear hsn
     go_wp2_with (first | (go_at_call 140; refine (z_a _ wr (by omega)).mono ?_; rintro e wr ⟨rfl, rfl⟩; rw [hn]) | (go_at_call 141; refine (z_aF ko ck ks _ _ wr (by omega) (HK2.out.mono (Nat.zero_le _) (Nat.le_refl _))).mono ?_; rintro e wr ⟨rfl, rfl⟩; rw [hh]))
     go_roundw
     case rel => exact ⟨j + 1, ln', fc', by omega, by go_num, HC, HU2, HG⟩
     case measure => simp [intOf]; omega
    | false =>
     have HU3 : Hid (z_dF ks (args.take (j + 1)) = false) := by show _ = _; rw [hsn, hn, hh]; simp
     clear hsn
     cases hf : (fc' == 0) with
     | true =>
      have hf0 : fc' = 0 := eq_of_beq hf
      subst hf0
      go_wp2_with (first | (go_at_call 140; refine (z_a _ wr (by omega)).mono ?_; rintro e wr ⟨rfl, rfl⟩; rw [hn]) | (go_at_call 141; refine (z_aF ko ck ks _ _ wr (by omega) (HK2.out.mono (Nat.zero_le _) (Nat.le_refl _))).mono ?_; rintro e wr ⟨rfl, rfl⟩; rw [hh]) | (go_at_call 68; refine (z_cl p L a ln' 4 wr HC.out ha).mono ?_; rintro e w3 ⟨rfl, hc3, hg3⟩; have HC3 : Hid (CObj w3 p L a ((a : Int) + 1) 4) := hc3; have HG3 : Hid (W0.grownBy w3 (some p)) := z_ah HG.out hg3 (.inl rfl); clear hc3 hg3))
      go_roundw
      case rel => exact ⟨j + 1, _, 4, by omega, by go_num, HC3, by show _ = _; rw [HU3.out]; rfl, HG3⟩
      case measure => simp [intOf]; omega
     | false =>
      go_wp2_with (first | (go_at_call 140; refine (z_a _ wr (by omega)).mono ?_; rintro e wr ⟨rfl, rfl⟩; rw [hn]) | (go_at_call 141; refine (z_aF ko ck ks _ _ wr (by omega) (HK2.out.mono (Nat.zero_le _) (Nat.le_refl _))).mono ?_; rintro e wr ⟨rfl, rfl⟩; rw [hh]) | (go_at_call 68; refine (z_f2 p L a ln' fc' 4 wr HC.out hf).mono ?_; rintro e wr ⟨rfl, rfl⟩))
      go_roundw
      case rel => exact ⟨j + 1, ln', fc', by omega, by go_num, HC, by show _ = _; rw [HU3.out, hf], HG⟩
      case measure => simp [intOf]; omega
  ·have e0 : args.take j = args := List.take_of_length_le (by omega)
   rw [e0] at HU
   go_wp2
   go_end0
   exact ⟨rfl, ln', fc', HC.out, HU.out, z_ah HG0.out HG.out (.inl rfl)⟩
end
section
open Go.RowKit
def z_bg (w : World) (k : Int) (ws : List ByteArray) (e : Ending) (w' : World) : Prop :=
 Below w.heap.size w w' ∧ ∃ (tt nm ud : ByteArray) (args : List ByteArray) (ao : Option Addr) (cap : Nat) (ok : Bool), e = .returned (.tuple #[.agg #[.int .i64 k, .string tt, .string nm, .slice ao args.length cap, .string ud], .bool ok]) ∧ args.length ≤ cap ∧ args.length ≤ ws.length ∧ StrsAt 0 w'.heap.size w' ao args ∧ (ok = true → z_af k ws = some ⟨tt, nm, args, ud⟩) ∧ (ok = false → z_af k ws = none)
theorem z_bH {w w' : World} {k : Int} {ws args : List ByteArray} {tt nm ud : ByteArray} {ao : Option Addr} {cap : Nat} (hb : Below w.heap.size w w') (hc : args.length ≤ cap) (hs : StrsAt 0 w'.heap.size w' ao args) (hr : z_af k ws = some ⟨tt, nm, args, ud⟩) (hle : args.length ≤ ws.length) :
  z_bg w k ws (.returned (.tuple #[.agg #[.int .i64 k, .string tt, .string nm, .slice ao args.length cap, .string ud], .bool true])) w' :=
 ⟨hb, tt, nm, ud, args, ao, cap, true, rfl, hc, hle, hs, fun _ => hr, fun h => Bool.noConfusion h⟩
theorem z_aH {w w' : World} {k : Int} {ws args : List ByteArray} {tt nm ud : ByteArray} {ao : Option Addr} {cap : Nat} (hb : Below w.heap.size w w') (hc : args.length ≤ cap) (hs : StrsAt 0 w'.heap.size w' ao args) (hr : z_af k ws = none) (hle : args.length ≤ ws.length) :
  z_bg w k ws (.returned (.tuple #[.agg #[.int .i64 k, .string tt, .string nm, .slice ao args.length cap, .string ud], .bool false])) w' :=
 ⟨hb, tt, nm, ud, args, ao, cap, false, rfl, hc, hle, hs, fun h => Bool.noConfusion h, fun _ => hr⟩
theorem z_ab (w : World) (o o' : Obj) : Below w.heap.size w ((w.alloc o).alloc o') := ((Below.refl _ _).alloc (Nat.le_refl _) _).alloc (by simp) _
theorem z_fJ (k : Nat) (hk : k = 7 ∨ k = 9 ∨ k = 10 ∨ k = 11) (ao : Option Addr) (c : Nat) (ws : List ByteArray) (w : World) (hl : ws.length ≤ 4398046511000) :
  Calls Tryz.prog 171 #[.int .i64 k, .slice ao ws.length c] w (z_bg w k ws) := by
 have HR : Hid (z_af (k : Int) ws = pNothing ws) := by rcases hk with rfl | rfl | rfl | rfl <;> rfl
 cases h0 : ((ws.length : Int) == 0) with
 | true =>
  have e0 : ws = [] := List.length_eq_zero_iff.1 (by have := eq_of_beq h0; omega)
  have HN : Hid (z_af (k : Int) ws = some ⟨eS, eS, [], eS⟩) := by show _ = _; rw [HR.out, e0]; rfl
  clear HR e0
  rcases hk with rfl | rfl | rfl | rfl
  all_goals
   go_enter Tryz.func171, Tryz.ntmps171
   go_wp2
   refine bodyPost_ret (v := .tuple #[.agg #[.int .i64 _, .string ⟨#[]⟩, .string ⟨#[]⟩, .slice none 0 0, .string ⟨#[]⟩], .bool true]) (by simp [results, Tryz.results171, go_sem]; rfl) rfl ?_
   exact z_bH (args := []) (z_ab _ _ _) (Nat.le_refl _) (StrsAt.nil _ _ _ _) HN.out (Nat.zero_le _)
 | false =>
  have HN : Hid (z_af (k : Int) ws = none) := by
   show _ = _; rw [HR.out]
   cases ws with
   | nil => simp at h0
   | cons => rfl
  clear HR
  rcases hk with rfl | rfl | rfl | rfl
  all_goals
   go_enter Tryz.func171, Tryz.ntmps171
   go_wp2
   refine bodyPost_ret (v := .tuple #[.agg #[.int .i64 _, .string ⟨#[]⟩, .string ⟨#[]⟩, .slice none 0 0, .string ⟨#[]⟩], .bool false]) (by simp [results, Tryz.results171, go_sem]; rfl) rfl ?_
   exact z_aH (args := []) (z_ab _ _ _) (Nat.le_refl _) (StrsAt.nil _ _ _ _) HN.out (Nat.zero_le _)
end
end Go.Proofs.YtlbjjbolbopfmaaGreatDoor
