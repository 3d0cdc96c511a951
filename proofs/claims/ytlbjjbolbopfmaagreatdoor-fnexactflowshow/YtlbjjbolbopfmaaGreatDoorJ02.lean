import Derived.Test.YtlbjjbolbopfmaaGreatDoorJ00
import Derived.Test.YtlbjjbolbopfmaaGreatDoorSh
import Derived.Lib.SmallJoins
import Derived.Lib.AtoiErrMem
import Derived.Lib.AppendIntMem
import Derived.Lib.Strings
namespace Go.Proofs.YtlbjjbolbopfmaaGreatDoor
set_option maxHeartbeats 2000000
set_option linter.unusedVariables false
section
open Go.RowKit
theorem z_js (s : ByteArray) (h : 0 < s.size) (hb : ¬ (97 ≤ (s[0]'h).toNat ∧ (s[0]'h).toNat ≤ 122)) : z_ac s = false :=
 z_fe _ 0 (by simpa using h) (z_lm (b := s[0]'h) hb (by omega))
theorem z_a (s : ByteArray) (w : World) (hs : s.size ≤ 9223372036854775807) :
  Calls Tryz.prog 140 #[.string s] w fun e w' => e = .returned (.bool (z_ac s)) ∧ w' = w := by
 by_cases hz : 1 ≤ s.size ∧ s.size ≤ 8
 ·obtain ⟨h1, h8⟩ := hz
  have hin : (decide ((1 : Int) ≤ (s.size : Int)) && decide ((s.size : Int) ≤ 8)) = true := by simp; omega
  have hb0 : (s[0]'h1).toNat < 256 := (s[0]'h1).toNat_lt
  by_cases hlow : 97 ≤ (s[0]'h1).toNat ∧ (s[0]'h1).toNat ≤ 122
  ·obtain ⟨l1, l2⟩ := hlow
   go_enter Tryz.func140, Tryz.ntmps140
   go_wp2_with (go_at_call 47; refine (z_bs _ _ _ _).mono ?_; rintro e w' ⟨rfl, rfl⟩; rw [hin])
   go_loop [3] (fun i => ∃ k : Nat, k ≤ s.size ∧ i = .int .i64 k ∧ Hid (z_bv 0 (s.data.toList.take k) = true)) (fun i => s.size - (intOf i).toNat)
   case atStart => exact ⟨0, Nat.zero_le _, rfl, rfl⟩
   case round =>
    obtain ⟨k, hk, rfl, HO⟩ := hrel
    by_cases hlt : k < s.size
    ·have hbk : (s[k]'hlt).toNat < 256 := (s[k]'hlt).toNat_lt
     have hlen : k < s.data.toList.length := by simpa using hlt
     have HSn : Hid (z_bv 0 (s.data.toList.take (k + 1)) = (z_bv 0 (s.data.toList.take k) && okC k (s[k]'hlt))) := z_fH _ k hlen
     by_cases g1 : 97 ≤ (s[k]'hlt).toNat ∧ (s[k]'hlt).toNat ≤ 122
     ·obtain ⟨g1, g2⟩ := g1
      have b1 : decide (((s[k]'hlt).toNat : Int) ≤ 122) = true := by simp; omega
      have HN : Hid (z_bv 0 (s.data.toList.take (k + 1)) = true) := by show _ = _; rw [HSn.out, HO.out, z_lv g1 g2]; rfl
      go_wp2
      go_round
      case rel => exact ⟨k + 1, by omega, by go_num, HN⟩
      case measure => simp [intOf]; omega
     by_cases g2 : 48 ≤ (s[k]'hlt).toNat ∧ (s[k]'hlt).toNat ≤ 57
     ·obtain ⟨g2, g3⟩ := g2
      have g4 : (s[k]'hlt).toNat < 97 := by omega
      have hk0 : 0 < k := by
       apply Classical.byContradiction
       intro hn
       have e : k = 0 := by omega
       subst e
       omega
      have HN : Hid (z_bv 0 (s.data.toList.take (k + 1)) = true) := by show _ = _; rw [HSn.out, HO.out, z_lc hk0 g2 g3]; rfl
      clear g1
      have b2 : decide (((s[k]'hlt).toNat : Int) ≤ 57) = true := by simp; omega
      go_wp2
      go_round
      case rel => exact ⟨k + 1, by omega, by go_num, HN⟩
      case measure => simp [intOf]; omega
     ·have HN : Hid (z_ac s = false) := z_fe _ k hlen (z_lm (b := s[k]'hlt) g1 (by omega))
      have hc : (s[k]'hlt).toNat < 48 ∨ (57 < (s[k]'hlt).toNat ∧ (s[k]'hlt).toNat < 97) ∨ 122 < (s[k]'hlt).toNat := by omega
      clear g1 g2
      rcases hc with g | ⟨g, g'⟩ | g
      ·have g2 : (s[k]'hlt).toNat < 97 := by omega
       go_wp2
       go_ret
       exact ⟨by rw [HN.out]; rfl, rfl⟩
      ·have g2 : 48 ≤ (s[k]'hlt).toNat := by omega
       have b2 : decide (((s[k]'hlt).toNat : Int) ≤ 57) = false := by simp; omega
       go_wp2
       go_ret
       exact ⟨by rw [HN.out]; rfl, rfl⟩
      ·have g1 : 97 ≤ (s[k]'hlt).toNat := by omega
       have g2 : 48 ≤ (s[k]'hlt).toNat := by omega
       have g3 : 57 < (s[k]'hlt).toNat := by omega
       have b1 : decide (((s[k]'hlt).toNat : Int) ≤ 122) = false := by simp; omega
       have b2 : decide (((s[k]'hlt).toNat : Int) ≤ 57) = false := by simp; omega
       go_wp2
       go_ret
       exact ⟨by rw [HN.out]; rfl, rfl⟩
    ·have HN : Hid (z_ac s = true) := by
      have e0 : s.data.toList.take k = s.data.toList := List.take_of_length_le (by simp; omega)
      have := HO.out
      rw [e0] at this
      have := z_hM _ this
      have e1 : s.data.toList.length = s.size := by simp
      rw [e1] at this
      show z_iv _ = true
      rw [this]; simp; omega
     go_wp2
     go_ret
     exact ⟨by rw [HN.out]; rfl, rfl⟩
  ·have HN : Hid (z_ac s = false) := z_js s h1 hlow
   have hc : (s[0]'h1).toNat < 97 ∨ 122 < (s[0]'h1).toNat := by omega
   clear hlow
   rcases hc with g | g
   ·go_enter Tryz.func140, Tryz.ntmps140
    go_wp2_with (go_at_call 47; refine (z_bs _ _ _ _).mono ?_; rintro e w' ⟨rfl, rfl⟩; rw [hin])
    go_ret
    exact ⟨by rw [HN.out]; rfl, rfl⟩
   ·have g1 : 97 ≤ (s[0]'h1).toNat := by omega
    go_enter Tryz.func140, Tryz.ntmps140
    go_wp2_with (go_at_call 47; refine (z_bs _ _ _ _).mono ?_; rintro e w' ⟨rfl, rfl⟩; rw [hin])
    go_ret
    exact ⟨by rw [HN.out]; rfl, rfl⟩
 ·have hin : (decide ((1 : Int) ≤ (s.size : Int)) && decide ((s.size : Int) ≤ 8)) = false := by simp; omega
  have HN : Hid (z_ac s = false) := by
   show (_ && _) = false
   have e1 : s.data.toList.length = s.size := by simp
   rw [e1]; simp; omega
  clear hz
  go_enter Tryz.func140, Tryz.ntmps140
  go_wp2_with (go_at_call 47; refine (z_bs _ _ _ _).mono ?_; rintro e w' ⟨rfl, rfl⟩; rw [hin])
  go_ret
  exact ⟨by rw [HN.out]; rfl, rfl⟩
theorem z_ak (ao : Option Addr) (cap : Nat) (ss : List ByteArray) (B : Nat) (w : World) (hB : B ≤ w.heap.size) (hl : ss.length ≤ 9223372036854775807) (hs : ∀ s ∈ ss, s.size ≤ 9223372036854775807) (hi : StrsAt 0 B w ao ss) :
  Calls Tryz.prog 164 #[.slice ao ss.length cap, .func (.func 202) #[] #[]] w fun e w' => e = .returned (.bool (allB z_ac ss)) ∧ Below w.heap.size w w' := by
 have HI : Hid (StrsAt 0 B w ao ss) := hi
 have HSz : Hid (∀ s ∈ ss, s.size ≤ 9223372036854775807) := hs
 clear hi hs
 go_enter Tryz.func164, Tryz.ntmps164
 go_wp2
 go_loopw [9] (fun i wr => ∃ k : Nat, k ≤ ss.length ∧ i = .int .i64 k ∧ Hid (Below w.heap.size w wr) ∧ Hid (allB z_ac (ss.take k) = true)) (fun i _ => ss.length - (intOf i).toNat)
 case atStart => exact ⟨0, Nat.zero_le _, rfl, Below.refl _ _, rfl⟩
 case round =>
  obtain ⟨k, hk, rfl, HB, HA⟩ := hrel
  by_cases hlt : k < ss.length
  ·obtain ⟨b, off, rfl, hB', hc0⟩ := HI.out.at k hlt
   have hc := (HB.out.cell (p := ⟨b, off + k, none⟩) (by show b < _; omega)).trans hc0
   clear hc0
   cases hn : z_ac ss[k] with
   | true =>
    have HN : Hid (allB z_ac (ss.take (k + 1)) = true) := by show _ = _; rw [z_c4 _ _ _ hlt, HA.out, hn]; rfl
    go_wp2_with (go_at_call 202; refine (z_aP _ _ (HSz.out _ (List.getElem_mem hlt))).mono ?_; rintro e w1 ⟨rfl, hb1⟩; rw [hn]; have HB1 : Hid (Below w.heap.size w w1) := HB.out.trans (hb1.mono HB.out.size); clear hb1)
    go_roundw
    case rel => exact ⟨k + 1, by omega, by go_num, HB1, HN⟩
    case measure => simp [intOf]; omega
   | false =>
    have HN : Hid (allB z_ac ss = false) := z_fh _ _ _ hlt hn
    go_wp2_with (go_at_call 202; refine (z_aP _ _ (HSz.out _ (List.getElem_mem hlt))).mono ?_; rintro e w1 ⟨rfl, hb1⟩; rw [hn]; have HB1 : Hid (Below w.heap.size w w1) := HB.out.trans (hb1.mono HB.out.size); clear hb1)
    go_ret
    exact ⟨by rw [HN.out]; rfl, HB1.out⟩
  ·have HN : Hid (allB z_ac ss = true) := by
    have e0 : ss.take k = ss := List.take_of_length_le (by omega)
    rw [← e0]; exact HA.out
   go_wp2
   go_ret
   exact ⟨by rw [HN.out]; rfl, HB.out⟩
end
section
open Go.RowKit
structure Env (w : World) : Prop where
 pow : ∀ n, Tryz.prog.globalNamed n = some 1 → Lib.TabIs Tryz.prog w n .u64 Lib.pow10Tab
 bad : ∃ tp p, ∀ n, Tryz.prog.globalNamed n = some 5 → w.var? Tryz.prog n = some #[.iface tp p]
 far : ∃ tp p, ∀ n, Tryz.prog.globalNamed n = some 6 → w.var? Tryz.prog n = some #[.iface tp p]
 err : ∀ n, Tryz.prog.globalNamed n = some 0 → w.var? Tryz.prog n = some #[.iface 185 (.agg #[.pointer (some ⟨7, 76, none⟩)])]
theorem Env.later {w w' : World} (h : Env w) (hb : Below w.heap.size w w') : Env w' := by
 obtain ⟨h1, ⟨t2, p2, h2⟩, ⟨t3, p3, h3⟩, h4⟩ := h
 exact ⟨fun n hn => Joins.var_stays hn (h1 n hn) hb (Nat.le_refl _), ⟨t2, p2, fun n hn => Joins.var_stays hn (h2 n hn) hb (Nat.le_refl _)⟩, ⟨t3, p3, fun n hn => Joins.var_stays hn (h3 n hn) hb (Nat.le_refl _)⟩, fun n hn => Joins.var_stays hn (h4 n hn) hb (Nat.le_refl _)⟩
theorem z_mM (s : ByteArray) (w : World) (hs : s.size ≤ 2199023255552) (he : Env w) :
  Calls Tryz.prog 207 #[.string s] w fun e w' => ∃ (n : Int) (er : Value), e = .returned (.tuple #[.int .i64 n, er]) ∧ Below w.heap.size w w' ∧
   ((Lib.atoiAll s.data.toList = .ok n ∧ er = .nilIface) ∨ ((∀ v, Lib.atoiAll s.data.toList ≠ .ok v) ∧ ∃ t a, er = .iface t (.pointer (some a)))) := by
 obtain ⟨_, ⟨t2, p2, h2⟩, ⟨t3, p3, h3⟩, _⟩ := he
 rcases hx : Lib.atoiAll s.data.toList with v | _ | _
 ·refine (Tryz.strconv_Atoi_ok s (by omega) v hx w).mono ?_
  rintro e w' ⟨rfl, hw⟩
  refine ⟨v, .nilIface, rfl, ?_, .inl ⟨rfl, rfl⟩⟩
  rcases hw with rfl | ⟨t, rfl⟩
  ·exact Below.refl _ _
  ·exact Joins.below_bytesWorld _ _ _ _ (Nat.le_refl _)
 ·refine (Tryz.strconv_Atoi_syntax_var s (by omega) hx t2 p2 w (h2 _ (by kernel_rfl))).mono ?_
  rintro e w' ⟨N, rfl, _, _, hb⟩
  exact ⟨0, _, rfl, hb, .inr ⟨(fun v h => by cases h), _, _, rfl⟩⟩
 ·refine (Tryz.strconv_Atoi_range_var s (by omega) hx t3 p3 w (h3 _ (by kernel_rfl))).mono ?_
  rintro e w' ⟨N, rfl, _, _, hb⟩
  exact ⟨_, _, rfl, hb, .inr ⟨(fun v h => by cases h), _, _, rfl⟩⟩
theorem z_eI (n : Int) (w : World) (h0 : -9223372036854775808 ≤ n) (h1 : n ≤ 9223372036854775807) (he : Env w) :
  Calls Tryz.prog 43 #[.int .i64 n] w fun e w' => e = .returned (.string ⟨(Lib.itoa n).toArray⟩) ∧ Below w.heap.size w w' := by
 refine (Tryz.strconv_Itoa n h0 h1 w (he.pow _ (by kernel_rfl))).mono ?_
 rintro e w' ⟨rfl, k, os, rfl⟩
 exact ⟨rfl, Lib.below_grow _ _ (Nat.le_refl _) _ _⟩
theorem z_en (s : ByteArray) (w : World) (hs : s.size ≤ 2199023255552) (he : Env w) :
  Calls Tryz.prog 191 #[.string s] w fun e w' => e = .returned (.bool (numB s)) ∧ Below w.heap.size w w' := by
 go_enter Tryz.func191, Tryz.ntmps191
 go_wp2_with fail
 refine (z_mM s _ hs he).mono ?_
 rintro e w1 ⟨n, er, rfl, hb1, hcase⟩
 have HB1 : Hid (Below w.heap.size w w1) := hb1
 have HE : Hid (Env w1) := he.later hb1
 clear hb1 he
 rcases hcase with ⟨hok, rfl⟩ | ⟨hno, t, a, rfl⟩
 ·have HN : Hid (numB s = ((decide (-9999 ≤ n) && decide (n ≤ 9999)) && decide (Lib.itoa n = s.data.toList))) := by simp [Hid, numB, hok]
  clear hok
  by_cases h1 : -9999 ≤ n
  ·by_cases h2 : n ≤ 9999
   ·go_wp2_with (go_at_call 43; refine (z_eI n _ (by omega) (by omega) HE.out).mono ?_; rintro e w2 ⟨rfl, hb2⟩; have HB2 : Hid (Below w.heap.size w w2) := HB1.out.trans (hb2.mono HB1.out.size); clear hb2)
    have e1 : decide (-9999 ≤ n) = true := decide_eq_true h1
    have e2 : decide (n ≤ 9999) = true := decide_eq_true h2
    go_ret
    refine ⟨?_, HB2.out⟩
    rw [HN.out, e1, e2, z_bn]
    have e3 : (Lib.itoa n == s.data.toList) = decide (Lib.itoa n = s.data.toList) := by by_cases h : Lib.itoa n = s.data.toList <;> simp [h]
    rw [← e3]
    rfl
   ·have e2 : decide (n ≤ 9999) = false := decide_eq_false h2
    go_wp2
    go_ret
    exact ⟨by rw [HN.out, e2]; simp, HB1.out⟩
  ·have e1 : decide (-9999 ≤ n) = false := decide_eq_false h1
   go_wp2
   go_ret
   exact ⟨by rw [HN.out, e1]; simp, HB1.out⟩
 ·have HN : Hid (numB s = false) := by
   show numB s = false
   unfold numB
   split
   ·rename_i v hv; exact absurd hv (hno v)
   ·rfl
  clear hno
  go_wp2
  go_ret
  exact ⟨by rw [HN.out]; rfl, HB1.out⟩
theorem z_aU (s : ByteArray) (w : World) (hs : s.size ≤ 2199023255552) (he : Env w) :
  Calls Tryz.prog 204 #[.string s] w fun e w' => e = .returned (.bool (z_an s)) ∧ Below w.heap.size w w' := by
 have HE0 : Hid (Env w) := he
 clear he
 cases hn : z_ac s with
 | true =>
  go_enter Tryz.func204, Tryz.ntmps204
  go_wp2_with (go_at_call 202; refine (z_aP _ _ (by omega)).mono ?_; rintro e w1 ⟨rfl, hb1⟩; rw [hn]; have HB1 : Hid (Below w.heap.size w w1) := hb1; clear hb1)
  go_ret
  exact ⟨by simp [z_an, hn], HB1.out⟩
 | false =>
  go_enter Tryz.func204, Tryz.ntmps204
  go_wp2_with (first | (go_at_call 202; refine (z_aP _ _ (by omega)).mono ?_; rintro e w1 ⟨rfl, hb1⟩; rw [hn]; have HB1 : Hid (Below w.heap.size w w1) := hb1; have HE1 : Hid (Env w1) := HE0.out.later hb1; clear hb1) | (go_at_call 191; refine (z_en _ _ hs HE1.out).mono ?_; rintro e w2 ⟨rfl, hb2⟩; have HB2 : Hid (Below w.heap.size w w2) := HB1.out.trans (hb2.mono HB1.out.size); clear hb2))
  go_ret
  exact ⟨by simp [z_an, hn], HB2.out⟩
theorem z_ar (ao : Option Addr) (cap : Nat) (ss : List ByteArray) (B : Nat) (w : World) (hB : B ≤ w.heap.size) (hl : ss.length ≤ 9223372036854775807) (hs : ∀ s ∈ ss, s.size ≤ 2199023255552) (he : Env w) (hi : StrsAt 0 B w ao ss) :
  Calls Tryz.prog 164 #[.slice ao ss.length cap, .func (.func 204) #[] #[]] w fun e w' => e = .returned (.bool (allB z_an ss)) ∧ Below w.heap.size w w' := by
 have HI : Hid (StrsAt 0 B w ao ss) := hi
 have HSz : Hid (∀ s ∈ ss, s.size ≤ 2199023255552) := hs
 have HE0 : Hid (Env w) := he
 clear hi hs he
 go_enter Tryz.func164, Tryz.ntmps164
 go_wp2
 go_loopw [9] (fun i wr => ∃ k : Nat, k ≤ ss.length ∧ i = .int .i64 k ∧ Hid (Below w.heap.size w wr) ∧ Hid (allB z_an (ss.take k) = true)) (fun i _ => ss.length - (intOf i).toNat)
 case atStart => exact ⟨0, Nat.zero_le _, rfl, Below.refl _ _, rfl⟩
 case round =>
  obtain ⟨k, hk, rfl, HB, HA⟩ := hrel
  by_cases hlt : k < ss.length
  ·obtain ⟨b, off, rfl, hB', hc0⟩ := HI.out.at k hlt
   have hc := (HB.out.cell (p := ⟨b, off + k, none⟩) (by show b < _; omega)).trans hc0
   clear hc0
   cases hn : z_an ss[k] with
   | true =>
    have HN : Hid (allB z_an (ss.take (k + 1)) = true) := by show _ = _; rw [z_c4 _ _ _ hlt, HA.out, hn]; rfl
    go_wp2_with (go_at_call 204; refine (z_aU _ _ (HSz.out _ (List.getElem_mem hlt)) (HE0.out.later HB.out)).mono ?_; rintro e w1 ⟨rfl, hb1⟩; rw [hn]; have HB1 : Hid (Below w.heap.size w w1) := HB.out.trans (hb1.mono HB.out.size); clear hb1)
    go_roundw
    case rel => exact ⟨k + 1, by omega, by go_num, HB1, HN⟩
    case measure => simp [intOf]; omega
   | false =>
    have HN : Hid (allB z_an ss = false) := z_fh _ _ _ hlt hn
    go_wp2_with (go_at_call 204; refine (z_aU _ _ (HSz.out _ (List.getElem_mem hlt)) (HE0.out.later HB.out)).mono ?_; rintro e w1 ⟨rfl, hb1⟩; rw [hn]; have HB1 : Hid (Below w.heap.size w w1) := HB.out.trans (hb1.mono HB.out.size); clear hb1)
    go_ret
    exact ⟨by rw [HN.out]; rfl, HB1.out⟩
  ·have HN : Hid (allB z_an ss = true) := by
    have e0 : ss.take k = ss := List.take_of_length_le (by omega)
    rw [← e0]; exact HA.out
   go_wp2
   go_ret
   exact ⟨by rw [HN.out]; rfl, HB.out⟩
theorem z_iN (s : ByteArray) : (s.extract 1 s.size).data.toList = s.data.toList.tail := by
 have h := Lib.extract_data s 1 s.size
 have e1 : s.data.toList.length = s.size := by simp
 rw [h]
 cases hl : s.data.toList with
 | nil => simp
 | cons a r =>
  rw [hl] at e1
  have e2 : r.length + 1 = s.size := by simpa using e1
  simp only [List.drop_succ_cons, List.drop_zero, List.tail_cons]
  exact List.take_of_length_le (by omega)
theorem z_gO (s : ByteArray) : negL s.data.toList = true ↔ ∃ h : 1 < s.size, (s[0]'(by omega)).toNat = 45 := by
 simp only [negL, Bool.and_eq_true, decide_eq_true_eq]
 have e1 : s.data.toList.length = s.size := by simp
 rw [e1]
 constructor
 ·rintro ⟨h, h2⟩
  refine ⟨h, ?_⟩
  have hl : 0 < s.data.toList.length := by omega
  rw [List.head?_eq_getElem?, List.getElem?_eq_getElem hl] at h2
  have h3 : s.data.toList[0] = 45 := Option.some.inj h2
  have : (s[0]'(by omega)) = s.data.toList[0] := rfl
  rw [this, h3]; rfl
 ·rintro ⟨h, h2⟩
  refine ⟨h, ?_⟩
  have hl : 0 < s.data.toList.length := by omega
  rw [List.head?_eq_getElem?, List.getElem?_eq_getElem hl]
  congr 1
  exact UInt8.toNat_inj.1 h2
theorem z_ma (s : ByteArray) (w : World) (hs : s.size ≤ 9223372036854775807) (hlen : 1 < s.size) (h45 : (s[0]'(by omega)).toNat = 45) :
  Calls Tryz.prog 210 #[.string s] w fun e w' => (∃ n, e = .returned (.tuple #[.int .i64 n, .bool (numB s)]) ∧ (numB s = true → n = numV s)) ∧ w' = w := by
 have hneq : ((((s[0]'(by omega)).toNat : Int)) == 45) = true := by simp; omega
 have HG : Hid (negL s.data.toList = true) := (z_gO s).2 ⟨hlen, h45⟩
 have HR0 : Hid (restL s.data.toList = (s.extract 1 s.size).data.toList) := by rw [Hid, restL, HG.out, z_iN]; rfl
 have HZ0 : Hid ((s.extract 1 s.size).size = s.size - 1) := by
  show _ = _
  simp
 clear h45
 go_enter Tryz.func210, Tryz.ntmps210
 go_wp2_with fail
 generalize s.extract 1 s.size = d at *
 have HR := HR0
 have hzd : d.size = s.size - 1 := HZ0.out
 have hzd1 : d.size ≤ s.size - 1 := by omega
 have hzd2 : s.size - 1 ≤ d.size := by omega
 clear hzd
 by_cases hd1 : 1 ≤ d.size ∧ d.size ≤ 4
 case neg =>
  have hin : (decide ((1 : Int) ≤ ((s.size - 1 : Nat) : Int)) && decide (((s.size - 1 : Nat) : Int) ≤ 4)) = false := by simp; omega
  refine (z_bs _ _ _ _).mono ?_
  rintro e w' ⟨rfl, rfl⟩
  rw [hin]
  have HN : Hid (numB s = false) := by
   rw [Hid, ← z_bQ, numL, HR.out, z_hA _ (by simpa using hd1)]; rfl
  go_wp2
  go_ret2
  exact ⟨⟨_, by rw [HN.out]; rfl, fun h => by rw [HN.out] at h; cases h⟩, rfl⟩
 obtain ⟨hd1, hd4⟩ := hd1
 have hin : (decide ((1 : Int) ≤ ((s.size - 1 : Nat) : Int)) && decide (((s.size - 1 : Nat) : Int) ≤ 4)) = true := by simp; omega
 have hb0 : (d[0]'hd1).toNat < 256 := (d[0]'hd1).toNat_lt
 have hlen0 : 0 < d.data.toList.length := by simp; omega
 have hhd : Hid (d.data.toList.head? = some (d[0]'hd1)) := by
  show d.data.toList.head? = some (d.data.toList[0]'hlen0)
  rw [List.head?_eq_getElem?, List.getElem?_eq_getElem hlen0]
 refine (z_bs _ _ _ _).mono ?_
 rintro e w' ⟨rfl, rfl⟩
 rw [hin]
 by_cases hld : 1 < d.size ∧ (d[0]'hd1).toNat = 48
 case pos =>
  obtain ⟨hl1, hl2⟩ := hld
  have hq : ((((d[0]'hd1).toNat : Int)) == 48) = true := by simp; omega
  have HN : Hid (numB s = false) := by
   rw [Hid, ← z_bQ, numL, HR.out, z_ij _ (by simpa using hl1) (by rw [hhd.out]; congr 1; exact UInt8.toNat_inj.1 hl2)]; rfl
  clear hl2
  go_wp2
  go_ret2
  exact ⟨⟨_, by rw [HN.out]; rfl, fun h => by rw [HN.out] at h; cases h⟩, rfl⟩
 have HLD : Hid (¬ (1 < d.data.toList.length ∧ d.data.toList.head? = some 48)) := by
  rintro ⟨h1, h2⟩
  rw [hhd.out] at h2
  refine hld ⟨by simpa using h1, ?_⟩
  have h3 := Option.some.inj h2
  rw [h3]; rfl
 have hcase : d.size = 1 ∨ (1 < d.size ∧ ((((d[0]'hd1).toNat : Int)) == 48) = false) := by
  by_cases h : 1 < d.size
  ·right
   refine ⟨h, ?_⟩
   have : (d[0]'hd1).toNat ≠ 48 := fun e => hld ⟨h, e⟩
   simp; omega
  ·left; omega
 clear hld
 rcases hcase with hs1 | ⟨hs1, hs2⟩
 all_goals
  have hz : (d.toList == [48]) = false ∨ (d.toList == [48]) = true := by cases (d.toList == [48]) <;> simp
  rcases hz with hz | hz
  case inr =>
   have HN : Hid (numB s = false) := by
    rw [Hid, ← z_bQ, numL, HR.out, HG.out]
    rw [z_bn] at hz
    have : d.data.toList = [48] := by simpa using hz
    simp [this]
   go_wp2
   go_ret2
   exact ⟨⟨_, by rw [HN.out]; rfl, fun h => by rw [HN.out] at h; cases h⟩, rfl⟩
  go_wp2
  go_loop [6, 7] (fun n i => ∃ k : Nat, k ≤ d.size ∧ i = .int .i64 k ∧ n = .int .i64 (val (d.data.toList.take k)) ∧ Hid (digs (d.data.toList.take k) = true)) (fun _ i => d.size - (intOf i).toNat)
  case atStart => exact ⟨0, Nat.zero_le _, rfl, rfl, rfl⟩
  case round =>
   obtain ⟨k, hk, rfl, rfl, HO⟩ := hrel
   have hv := z_jl d.data.toList k (by simpa using hk) (by omega) HO.out
   by_cases hlt : k < d.size
   ·have hbk : (d[k]'hlt).toNat < 256 := (d[k]'hlt).toNat_lt
    have hlenk : k < d.data.toList.length := by simpa using hlt
    have HSn : Hid (digs (d.data.toList.take (k + 1)) = (digs (d.data.toList.take k) && digB (d[k]'hlt))) := z_dS _ k hlenk
    have HV : Hid (val (d.data.toList.take (k + 1)) = val (d.data.toList.take k) * 10 + ((d[k]'hlt).toNat - 48)) := z_eJ _ k hlenk
    by_cases hg : 48 ≤ (d[k]'hlt).toNat ∧ (d[k]'hlt).toNat ≤ 57
    ·obtain ⟨g1, g2⟩ := hg
     have b1 : decide (((d[k]'hlt).toNat : Int) ≤ 57) = true := by simp; omega
     have HN : Hid (digs (d.data.toList.take (k + 1)) = true) := by show _ = _; rw [HSn.out, HO.out]; simp [digB, g1, g2]
     go_wp2
     go_round
     case rel => exact ⟨k + 1, by omega, by go_num, by rw [HV.out]; go_num, HN⟩
     case measure => simp [intOf]; omega
    ·have HN : Hid (numB s = false) := by
      rw [Hid, ← z_bQ, numL, HR.out, z_eM _ k hlenk (by show digB (d[k]'hlt) = false; simp [digB]; omega)]; rfl
     have hc : (d[k]'hlt).toNat < 48 ∨ 57 < (d[k]'hlt).toNat := by omega
     clear hg
     rcases hc with g | g
     ·go_wp2
      go_ret2
      exact ⟨⟨_, by rw [HN.out]; rfl, fun h => by rw [HN.out] at h; cases h⟩, rfl⟩
     ·have g1 : 48 ≤ (d[k]'hlt).toNat := by omega
      have b1 : decide (((d[k]'hlt).toNat : Int) ≤ 57) = false := by simp; omega
      go_wp2
      go_ret2
      exact ⟨⟨_, by rw [HN.out]; rfl, fun h => by rw [HN.out] at h; cases h⟩, rfl⟩
   ·have e0 : d.data.toList.take k = d.data.toList := List.take_of_length_le (by simp; omega)
    have HN : Hid (numB s = true ∧ numV s = -(val d.data.toList : Int)) := by
     have hO := HO.out
     rw [e0] at hO
     have h1 : numB s = true := by
      rw [← z_bQ, numL, HR.out, HG.out, z_gU _ (by simp; omega) (by simp; omega) HLD.out hO]
      rw [z_bn] at hz; simpa using hz
     refine ⟨h1, ?_⟩
     rw [← z_jn s h1, valL, HR.out, HG.out]; rfl
    rw [e0] at hv ⊢
    clear e0
    go_wp2
    go_ret2
    exact ⟨⟨_, by rw [HN.out.1]; rfl, fun _ => by rw [HN.out.2]⟩, rfl⟩
theorem z_lu (s : ByteArray) (w : World) (hs : s.size ≤ 9223372036854775807) (hc : 1 < s.size) (hno : ¬ ∃ _h : 1 < s.size, (s[0]'(by omega)).toNat = 45) :
  Calls Tryz.prog 210 #[.string s] w fun e w' => (∃ n, e = .returned (.tuple #[.int .i64 n, .bool (numB s)]) ∧ (numB s = true → n = numV s)) ∧ w' = w := by
 have HG : Hid (negL s.data.toList = false) := by
  cases h : negL s.data.toList with
  | false => rfl
  | true => exact absurd ((z_gO s).1 h) hno
 have HR : Hid (restL s.data.toList = s.data.toList) := by rw [Hid, restL, HG.out]; rfl
 have hc2 : ((((s[0]'(by omega)).toNat : Int)) == 45) = false := by
  have : (s[0]'(by omega)).toNat ≠ 45 := fun e => hno ⟨hc, e⟩
  simp; omega
 clear hno
 go_enter Tryz.func210, Tryz.ntmps210
 go_wp2_with fail
 by_cases hd1 : 1 ≤ s.size ∧ s.size ≤ 4
 case neg =>
  have hin : (decide ((1 : Int) ≤ (s.size : Int)) && decide ((s.size : Int) ≤ 4)) = false := by simp; omega
  refine (z_bs _ _ _ _).mono ?_
  rintro e w' ⟨rfl, rfl⟩
  rw [hin]
  have HN : Hid (numB s = false) := by
   rw [Hid, ← z_bQ, numL, HR.out, z_hA _ (by simpa using hd1)]; rfl
  go_wp2
  go_ret2
  exact ⟨⟨_, by rw [HN.out]; rfl, fun h => by rw [HN.out] at h; cases h⟩, rfl⟩
 obtain ⟨hd1, hd4⟩ := hd1
 have hin : (decide ((1 : Int) ≤ (s.size : Int)) && decide ((s.size : Int) ≤ 4)) = true := by simp; omega
 have hb0 : (s[0]'hd1).toNat < 256 := (s[0]'hd1).toNat_lt
 have hlen0 : 0 < s.data.toList.length := by simp; omega
 have hhd : Hid (s.data.toList.head? = some (s[0]'hd1)) := by
  show s.data.toList.head? = some (s.data.toList[0]'hlen0)
  rw [List.head?_eq_getElem?, List.getElem?_eq_getElem hlen0]
 refine (z_bs _ _ _ _).mono ?_
 rintro e w' ⟨rfl, rfl⟩
 rw [hin]
 by_cases hld : 1 < s.size ∧ (s[0]'hd1).toNat = 48
 case pos =>
  obtain ⟨hl1, hl2⟩ := hld
  have hq : ((((s[0]'hd1).toNat : Int)) == 48) = true := by simp; omega
  have HN : Hid (numB s = false) := by
   rw [Hid, ← z_bQ, numL, HR.out, z_ij _ (by simpa using hl1) (by rw [hhd.out]; congr 1; exact UInt8.toNat_inj.1 hl2)]; rfl
  clear hl2
  go_wp2
  go_ret2
  exact ⟨⟨_, by rw [HN.out]; rfl, fun h => by rw [HN.out] at h; cases h⟩, rfl⟩
 have HLD : Hid (¬ (1 < s.data.toList.length ∧ s.data.toList.head? = some 48)) := by
  rintro ⟨h1, h2⟩
  rw [hhd.out] at h2
  refine hld ⟨by simpa using h1, ?_⟩
  have h3 := Option.some.inj h2
  rw [h3]; rfl
 have hs2 : ((((s[0]'hd1).toNat : Int)) == 48) = false := by
  have : (s[0]'hd1).toNat ≠ 48 := fun e => hld ⟨hc, e⟩
  simp; omega
 clear hld
 go_wp2
 go_loop [6, 7] (fun n i => ∃ k : Nat, k ≤ s.size ∧ i = .int .i64 k ∧ n = .int .i64 (val (s.data.toList.take k)) ∧ Hid (digs (s.data.toList.take k) = true)) (fun _ i => s.size - (intOf i).toNat)
 case atStart => exact ⟨0, Nat.zero_le _, rfl, rfl, rfl⟩
 case round =>
  obtain ⟨k, hk, rfl, rfl, HO⟩ := hrel
  have hv := z_jl s.data.toList k (by simpa using hk) (by omega) HO.out
  by_cases hlt : k < s.size
  ·have hbk : (s[k]'hlt).toNat < 256 := (s[k]'hlt).toNat_lt
   have hlenk : k < s.data.toList.length := by simpa using hlt
   have HSn : Hid (digs (s.data.toList.take (k + 1)) = (digs (s.data.toList.take k) && digB (s[k]'hlt))) := z_dS _ k hlenk
   have HV : Hid (val (s.data.toList.take (k + 1)) = val (s.data.toList.take k) * 10 + ((s[k]'hlt).toNat - 48)) := z_eJ _ k hlenk
   by_cases hg : 48 ≤ (s[k]'hlt).toNat ∧ (s[k]'hlt).toNat ≤ 57
   ·obtain ⟨g1, g2⟩ := hg
    have b1 : decide (((s[k]'hlt).toNat : Int) ≤ 57) = true := by simp; omega
    have HN : Hid (digs (s.data.toList.take (k + 1)) = true) := by show _ = _; rw [HSn.out, HO.out]; simp [digB, g1, g2]
    go_wp2
    go_round
    case rel => exact ⟨k + 1, by omega, by go_num, by rw [HV.out]; go_num, HN⟩
    case measure => simp [intOf]; omega
   ·have HN : Hid (numB s = false) := by
     rw [Hid, ← z_bQ, numL, HR.out, z_eM _ k hlenk (by show digB (s[k]'hlt) = false; simp [digB]; omega)]; rfl
    have hc : (s[k]'hlt).toNat < 48 ∨ 57 < (s[k]'hlt).toNat := by omega
    clear hg
    rcases hc with g | g
    ·go_wp2
     go_ret2
     exact ⟨⟨_, by rw [HN.out]; rfl, fun h => by rw [HN.out] at h; cases h⟩, rfl⟩
    ·have g1 : 48 ≤ (s[k]'hlt).toNat := by omega
     have b1 : decide (((s[k]'hlt).toNat : Int) ≤ 57) = false := by simp; omega
     go_wp2
     go_ret2
     exact ⟨⟨_, by rw [HN.out]; rfl, fun h => by rw [HN.out] at h; cases h⟩, rfl⟩
  ·have e0 : s.data.toList.take k = s.data.toList := List.take_of_length_le (by simp; omega)
   have HN : Hid (numB s = true ∧ numV s = (val s.data.toList : Int)) := by
    have hO := HO.out
    rw [e0] at hO
    have h1 : numB s = true := by
     rw [← z_bQ, numL, HR.out, HG.out, z_gU _ (by simp; omega) (by simp; omega) HLD.out hO]
     rfl
    refine ⟨h1, ?_⟩
    rw [← z_jn s h1, valL, HR.out, HG.out]; rfl
   rw [e0] at hv ⊢
   clear e0
   go_wp2
   go_ret2
   exact ⟨⟨_, by rw [HN.out.1]; rfl, fun _ => by rw [HN.out.2]⟩, rfl⟩
theorem z_jh (s : ByteArray) (w : World) (hs : s.size ≤ 9223372036854775807) (hc : ¬ 1 < s.size) (hno : ¬ ∃ h : 1 < s.size, (s[0]'(by omega)).toNat = 45) :
  Calls Tryz.prog 210 #[.string s] w fun e w' => (∃ n, e = .returned (.tuple #[.int .i64 n, .bool (numB s)]) ∧ (numB s = true → n = numV s)) ∧ w' = w := by
 have HG : Hid (negL s.data.toList = false) := by
  cases h : negL s.data.toList with
  | false => rfl
  | true => exact absurd ((z_gO s).1 h) hno
 have HR : Hid (restL s.data.toList = s.data.toList) := by rw [Hid, restL, HG.out]; rfl
 clear hno
 go_enter Tryz.func210, Tryz.ntmps210
 go_wp2_with fail
 by_cases hd1 : 1 ≤ s.size ∧ s.size ≤ 4
 case neg =>
  have hin : (decide ((1 : Int) ≤ (s.size : Int)) && decide ((s.size : Int) ≤ 4)) = false := by simp; omega
  refine (z_bs _ _ _ _).mono ?_
  rintro e w' ⟨rfl, rfl⟩
  rw [hin]
  have HN : Hid (numB s = false) := by
   rw [Hid, ← z_bQ, numL, HR.out, z_hA _ (by simpa using hd1)]; rfl
  go_wp2
  go_ret2
  exact ⟨⟨_, by rw [HN.out]; rfl, fun h => by rw [HN.out] at h; cases h⟩, rfl⟩
 obtain ⟨hd1, hd4⟩ := hd1
 have hin : (decide ((1 : Int) ≤ (s.size : Int)) && decide ((s.size : Int) ≤ 4)) = true := by simp; omega
 have hb0 : (s[0]'hd1).toNat < 256 := (s[0]'hd1).toNat_lt
 have hlen0 : 0 < s.data.toList.length := by simp; omega
 have hhd : Hid (s.data.toList.head? = some (s[0]'hd1)) := by
  show s.data.toList.head? = some (s.data.toList[0]'hlen0)
  rw [List.head?_eq_getElem?, List.getElem?_eq_getElem hlen0]
 refine (z_bs _ _ _ _).mono ?_
 rintro e w' ⟨rfl, rfl⟩
 rw [hin]
 have hld : ¬ (1 < s.size ∧ (s[0]'hd1).toNat = 48) := fun h => hc h.1
 have HLD : Hid (¬ (1 < s.data.toList.length ∧ s.data.toList.head? = some 48)) := by
  rintro ⟨h1, h2⟩
  rw [hhd.out] at h2
  refine hld ⟨by simpa using h1, ?_⟩
  have h3 := Option.some.inj h2
  rw [h3]; rfl
 have hs1 : s.size = 1 := by omega
 clear hld
 go_wp2
 go_loop [6, 7] (fun n i => ∃ k : Nat, k ≤ s.size ∧ i = .int .i64 k ∧ n = .int .i64 (val (s.data.toList.take k)) ∧ Hid (digs (s.data.toList.take k) = true)) (fun _ i => s.size - (intOf i).toNat)
 case atStart => exact ⟨0, Nat.zero_le _, rfl, rfl, rfl⟩
 case round =>
  obtain ⟨k, hk, rfl, rfl, HO⟩ := hrel
  have hv := z_jl s.data.toList k (by simpa using hk) (by omega) HO.out
  by_cases hlt : k < s.size
  ·have hbk : (s[k]'hlt).toNat < 256 := (s[k]'hlt).toNat_lt
   have hlenk : k < s.data.toList.length := by simpa using hlt
   have HSn : Hid (digs (s.data.toList.take (k + 1)) = (digs (s.data.toList.take k) && digB (s[k]'hlt))) := z_dS _ k hlenk
   have HV : Hid (val (s.data.toList.take (k + 1)) = val (s.data.toList.take k) * 10 + ((s[k]'hlt).toNat - 48)) := z_eJ _ k hlenk
   by_cases hg : 48 ≤ (s[k]'hlt).toNat ∧ (s[k]'hlt).toNat ≤ 57
   ·obtain ⟨g1, g2⟩ := hg
    have b1 : decide (((s[k]'hlt).toNat : Int) ≤ 57) = true := by simp; omega
    have HN : Hid (digs (s.data.toList.take (k + 1)) = true) := by show _ = _; rw [HSn.out, HO.out]; simp [digB, g1, g2]
    go_wp2
    go_round
    case rel => exact ⟨k + 1, by omega, by go_num, by rw [HV.out]; go_num, HN⟩
    case measure => simp [intOf]; omega
   ·have HN : Hid (numB s = false) := by
     rw [Hid, ← z_bQ, numL, HR.out, z_eM _ k hlenk (by show digB (s[k]'hlt) = false; simp [digB]; omega)]; rfl
    have hc : (s[k]'hlt).toNat < 48 ∨ 57 < (s[k]'hlt).toNat := by omega
    clear hg
    rcases hc with g | g
    ·go_wp2
     go_ret2
     exact ⟨⟨_, by rw [HN.out]; rfl, fun h => by rw [HN.out] at h; cases h⟩, rfl⟩
    ·have g1 : 48 ≤ (s[k]'hlt).toNat := by omega
     have b1 : decide (((s[k]'hlt).toNat : Int) ≤ 57) = false := by simp; omega
     go_wp2
     go_ret2
     exact ⟨⟨_, by rw [HN.out]; rfl, fun h => by rw [HN.out] at h; cases h⟩, rfl⟩
  ·have e0 : s.data.toList.take k = s.data.toList := List.take_of_length_le (by simp; omega)
   have HN : Hid (numB s = true ∧ numV s = (val s.data.toList : Int)) := by
    have hO := HO.out
    rw [e0] at hO
    have h1 : numB s = true := by
     rw [← z_bQ, numL, HR.out, HG.out, z_gU _ (by simp; omega) (by simp; omega) HLD.out hO]
     rfl
    refine ⟨h1, ?_⟩
    rw [← z_jn s h1, valL, HR.out, HG.out]; rfl
   rw [e0] at hv ⊢
   clear e0
   go_wp2
   go_ret2
   exact ⟨⟨_, by rw [HN.out.1]; rfl, fun _ => by rw [HN.out.2]⟩, rfl⟩
theorem z_iM (s : ByteArray) (w : World) (hs : s.size ≤ 9223372036854775807) :
  Calls Tryz.prog 210 #[.string s] w fun e w' => (∃ n, e = .returned (.tuple #[.int .i64 n, .bool (numB s)]) ∧ (numB s = true → n = numV s)) ∧ w' = w := by
 by_cases hneg : ∃ h : 1 < s.size, (s[0]'(by omega)).toNat = 45
 ·obtain ⟨h1, h2⟩ := hneg
  exact z_ma s w hs h1 h2
 ·by_cases h1 : 1 < s.size
  ·exact z_lu s w hs h1 hneg
  ·exact z_jh s w hs h1 hneg
end
section
open Go.RowKit
theorem Tryz.infoStr : (Tryz.prog.info? 9).map (fun i => (i.zero, i.size, i.bytes)) = some (some (.string ByteArray.empty), 1, 16) := by kernel_rfl
def strCells (ss : List ByteArray) : List Value := ss.map Value.string
theorem StrsAt.of_owns {w : World} {base : Nat} {v : Value} {ss : List ByteArray} (h : w.ownsRow base 9 1 v ss.length (strCells ss)) :
  z_bd base w.heap.size w v ss := by
 have h0 := h
 rcases h.2 with ⟨rfl, h2⟩ | ⟨g, cap, cur, rfl, hb, hg, hn, hm, hs, ht⟩
 ·have : ss = [] := by simpa [strCells] using h2
  subst this
  exact ⟨none, 0, rfl, Nat.le_refl _, StrsAt.nil _ _ _ _⟩
 ·refine ⟨some ⟨g, 0, none⟩, cap, rfl, hn, fun k hk => ⟨g, 0, rfl, ?_, ?_⟩⟩
  ·exact h0.lt g rfl
  ·rw [Nat.zero_add, h0.cellAt k (by omega)]
   simp [strCells, hk, List.getD]
theorem z_bc (ao : Option Addr) (cap : Nat) (ss : List ByteArray) (w : World) (hl : ss.length ≤ 4398046511104) (hi : StrsAt 0 w.heap.size w ao ss) :
  Calls Tryz.prog 88 #[.slice ao ss.length cap] w fun e w' => ∃ v, e = .returned v ∧ Below w.heap.size w w' ∧ z_bd w.heap.size w'.heap.size w' v ss := by
 obtain ⟨i0, hi0, hz0, hz1, hz2⟩ := info_parts Tryz.infoStr
 by_cases h0 : 0 < ss.length
 ·obtain ⟨b, off, rfl, hB, _⟩ := hi 0 h0
  have hcells : ∀ j u, (strCells ss)[j]? = some u → w.cell? ((⟨b, off, none⟩ : Addr).add j) = some u := by
   intro j u hj
   have hjl : j < ss.length := by
    have := (List.getElem?_eq_some_iff.1 hj).1
    simpa [strCells] using this
   obtain ⟨b', off', e, _, hc⟩ := hi.at j hjl
   simp only [Option.some.injEq, Addr.mk.injEq] at e
   obtain ⟨rfl, rfl, _⟩ := e
   have e2 : (⟨b, off, none⟩ : Addr).add j = ⟨b, off + j, none⟩ := by
    unfold Addr.add
    split
    ·rename_i h; subst h; rfl
    ·rfl
   rw [e2, hc]
   simp [strCells, hjl] at hj
   rw [hj]
  clear hi
  go_enter Tryz.func88, Tryz.ntmps88
  go_wp2_with (at_builtin; refine wpList_append_own _ rfl _ _ 45 rfl w.heap.size 9 i0 (.string ByteArray.empty) 1 16 Tryz.underlying45 hi0 hz0 hz1 hz2 rfl (by decide) _ _ _ rfl (World.ownsRow_nil _ _ _ _) ⟨b, off, none⟩ ss.length _ (strCells ss) rfl (by simp [strCells]) hcells (by intro u hu; simp [strCells] at hu; obtain ⟨a, _, rfl⟩ := hu; rfl) (by unfold maxLen; omega) (by omega) (Nat.le_refl _) ?_; intro v' w1 hown hgrow _)
  go_ret
  rw [Nat.zero_add, List.nil_append] at hown
  exact ⟨v', rfl, (Below.refl _ _).grown hgrow (Nat.le_refl _) (by intro k hk; cases hk), StrsAt.of_owns hown⟩
 ·have e : ss = [] := List.length_eq_zero_iff.1 (by omega)
  subst e
  cases ao with
  | none =>
   go_enter Tryz.func88, Tryz.ntmps88
   go_wp2
   go_ret
   exact ⟨_, rfl, Below.refl _ _, none, 0, rfl, Nat.le_refl _, StrsAt.nil _ _ _ _⟩
  | some ad =>
   go_enter Tryz.func88, Tryz.ntmps88
   go_wp2_with (at_builtin; refine wpList_append_own _ rfl _ _ 45 rfl w.heap.size 9 i0 (.string ByteArray.empty) 1 16 Tryz.underlying45 hi0 hz0 hz1 hz2 rfl (by decide) _ _ _ rfl (World.ownsRow_nil _ _ _ _) ad 0 _ [] rfl rfl (by intro j u hj; simp at hj) (by intro u hu; simp at hu) (by unfold maxLen; omega) (by omega) (Nat.le_refl _) ?_; intro v' w1 hown hgrow _)
   go_ret
   exact ⟨v', rfl, (Below.refl _ _).grown hgrow (Nat.le_refl _) (by intro k hk; cases hk), StrsAt.of_owns (ss := []) hown⟩
theorem z_bN (ao : Option Addr) (cap : Nat) (ss : List ByteArray) (s : ByteArray) (B : Nat) (w : World) (hl : ss.length ≤ 9223372036854775807) (hi : StrsAt 0 B w ao ss) :
  Calls Tryz.prog 162 #[.slice ao ss.length cap, .string s] w fun e w' => e = .returned (.bool (hasB ss s)) ∧ w' = w := by
 by_cases h0 : 0 < ss.length
 ·obtain ⟨b, off, rfl, hB, _⟩ := hi 0 h0
  refine (Tryz.slices_Contains_string b off ss.length cap ss s w (Nat.le_refl _) hl ?_).mono ?_
  ·intro j hj
   obtain ⟨b', off', e, _, hc⟩ := hi j hj
   simp only [Option.some.injEq, Addr.mk.injEq] at e
   obtain ⟨rfl, rfl, _⟩ := e
   exact hc
  ·rintro e w' ⟨rfl, rfl⟩
   refine ⟨?_, rfl⟩
   congr 2
   rw [Bool.eq_iff_iff, z_ci, Lib.containsS_iff, List.take_length]
 ·have e : ss = [] := List.length_eq_zero_iff.1 (by omega)
  subst e
  exact Tryz.slices_Contains_string_empty ao cap s w
theorem z_dy (ao : Option Addr) (cap : Nat) (ss : List ByteArray) (w : World) (hcap : ss.length ≤ cap) (hl : ss.length ≤ 4398046511104) (hi : StrsAt 0 w.heap.size w ao ss) :
  Calls Tryz.prog 203 #[.slice ao ss.length cap] w fun e w' => e = .returned (.bool (z_cB ss ss.length)) ∧ w' = w := by
 have HI : Hid (StrsAt 0 w.heap.size w ao ss) := hi
 clear hi
 go_enter Tryz.func203, Tryz.ntmps203
 go_wp2
 go_loop [7] (fun i => ∃ k : Nat, k ≤ ss.length ∧ i = .int .i64 k ∧ Hid (z_cB ss k = false)) (fun i => ss.length - (intOf i).toNat)
 case atStart => exact ⟨0, Nat.zero_le _, rfl, rfl⟩
 case round =>
  obtain ⟨k, hk, rfl, HR⟩ := hrel
  by_cases hlt : k < ss.length
  ·obtain ⟨b, off, rfl, hB, hc⟩ := HI.out.at k hlt
   have HT : Hid (StrsAt 0 w.heap.size w (some ⟨b, off, none⟩) (ss.take k)) := by
    intro j hj
    have hj' : j < ss.length := by simp at hj; omega
    have hj2 : j < k := by simp at hj; omega
    obtain ⟨b', off', e, hb, hcj⟩ := HI.out j hj'
    exact ⟨b', off', e, hb, by rw [hcj]; simp [List.getD, hj2]⟩
   have el : (ss.take k).length = k := by simp; omega
   have HL : Hid ((ss.take k).length = k) := el
   clear el
   cases hh : hasB (ss.take k) ss[k] with
   | true =>
    have HN : Hid (z_cB ss ss.length = true) := z_eY ss k _ hlt hlt hh
    go_wp2_with (go_at_call 162; have hct := z_bN (some ⟨b, off, none⟩) cap (ss.take k) ss[k] w.heap.size w (by rw [HL.out]; omega) HT.out; rw [HL.out, hh] at hct; refine hct.mono ?_; clear hct; rintro e w' ⟨rfl, rfl⟩)
    go_ret
    exact ⟨by rw [HN.out]; rfl, rfl⟩
   | false =>
    have HN : Hid (z_cB ss (k + 1) = false) := by show _ = _; rw [z_gd ss k hlt, HR.out, hh]; rfl
    go_wp2_with (go_at_call 162; have hct := z_bN (some ⟨b, off, none⟩) cap (ss.take k) ss[k] w.heap.size w (by rw [HL.out]; omega) HT.out; rw [HL.out, hh] at hct; refine hct.mono ?_; clear hct; rintro e w' ⟨rfl, rfl⟩)
    go_round
    case rel => exact ⟨k + 1, by omega, by go_num, HN⟩
    case measure => simp [intOf]; omega
  ·have e0 : k = ss.length := by omega
   subst e0
   go_wp2
   go_ret
   exact ⟨by rw [HR.out]; rfl, rfl⟩
end
end Go.Proofs.YtlbjjbolbopfmaaGreatDoor
