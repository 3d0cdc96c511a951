import Derived.Test.YtlbjjbolbopfmaaGreatDoorH35
import Derived.Test.YtlbjjbolbopfmaaGreatDoorH09
import Derived.Test.YtlbjjbolbopfmaaGreatDoorH21
import Derived.Deep.AppendLies
import Derived.Laws.AppendOwnNone
import Derived.Lib.AppendZeros
namespace Go.Proofs.YtlbjjbolbopfmaaGreatDoor
set_option maxHeartbeats 2000000
set_option maxRecDepth 1000000
set_option linter.unusedVariables false
section
open Go.RowKit
def evGo : Nat → List Int → Option Nat
 | d, [] => some d
 | d, k :: r => if d = 0 ∧ closesK k = true then none else evGo (if opensK k then d + 1 else if k == 11 then d - 1 else d) r
def evenB (ls : List Ln) : Bool := evGo 0 (kinds ls) == some 0
theorem evGo_append : ∀ (a b : List Int) (d : Nat), evGo d (a ++ b) = (evGo d a).bind (fun d' => evGo d' b)
 | [], b, d => rfl
 | k :: r, b, d => by
  simp only [List.cons_append, evGo]
  split
  ·rfl
  ·exact evGo_append r b _
theorem evGo_step {ls : List Ln} {j d : Nat} (hj : j < ls.length) (h : evGo 0 (kinds (ls.take j)) = some d) : evGo 0 (kinds (ls.take (j + 1))) = evGo d [ls[j].1] := by
 rw [kinds_take_succ ls j hj, evGo_append, h]; rfl
theorem evenB_bad {ls : List Ln} {j d : Nat} (hj : j < ls.length) (h : evGo 0 (kinds (ls.take j)) = some d) (hb : evGo d [ls[j].1] = none) : evenB ls = false := by
 have h1 := evGo_step hj h
 rw [hb] at h1
 unfold evenB
 rw [kinds_split ls (j + 1), evGo_append, h1]; rfl
theorem evenB_end {ls : List Ln} {d : Nat} (h : evGo 0 (kinds (ls.take ls.length)) = some d) : evenB ls = ((d : Int) == 0) := by
 rw [List.take_length] at h
 unfold evenB
 rw [h]
 cases d with
 | zero => rfl
 | succ n =>
  have e1 : ((((n + 1 : Nat) : Int)) == 0) = false := by simp; omega
  rw [e1]; rfl
theorem opens_not11 {k : Int} (h : opensK k = true) : (k == 11) = false := by
 cases h11 : (k == 11) with
 | false => rfl
 | true => rw [beq_iff_eq] at h11; subst h11; revert h; decide
theorem areEven_any (ao : Option Addr) (cap : Nat) (ls : List Ln) (w : World) (hl : ls.length ≤ 4398046511104) (hi : LinesAt w.heap.size w ao ls) :
  Calls Tryz.prog 52 #[.slice ao ls.length cap] w fun e w' => e = .returned (.bool (evenB ls)) ∧ Below w.heap.size w w' := by
 have HI : Hid (LinesAt w.heap.size w ao ls) := hi
 clear hi
 go_enter Tryz.func52, Tryz.ntmps52
 go_wp2_with fail
 go_loopw [3, 8] (fun dv iv wr => ∃ j d : Nat, j ≤ ls.length ∧ dv = .int .i64 d ∧ iv = .int .i64 j ∧ Hid (evGo 0 (kinds (ls.take j)) = some d) ∧ d ≤ j ∧ Hid (Below w.heap.size w wr)) (fun _ iv _ => ls.length - (intOf iv).toNat)
 case atStart => exact ⟨0, 0, Nat.zero_le _, rfl, rfl, rfl, Nat.le_refl _, Below.refl _ _⟩
 case round =>
  obtain ⟨j, d, hj, rfl, rfl, HG, hd, HB⟩ := hrel
  by_cases hlt : j < ls.length
  ·obtain ⟨b, off, rfl, hB, ao2, cap2, hc2, q0, q1, q2, q3, q4, hA⟩ := HI.out j hlt
   have c0 := (HB.out.cell (p := ⟨b, off + j * 5, none⟩) hB).trans q0
   have c1 := (HB.out.cell (p := ⟨b, off + j * 5 + 1, none⟩) hB).trans q1
   have c2 := (HB.out.cell (p := ⟨b, off + j * 5 + 2, none⟩) hB).trans q2
   have c3 := (HB.out.cell (p := ⟨b, off + j * 5 + 3, none⟩) hB).trans q3
   have c4 := (HB.out.cell (p := ⟨b, off + j * 5 + 4, none⟩) hB).trans q4
   have HS : Hid (evGo 0 (kinds (ls.take (j + 1))) = evGo d [ls[j].1]) := evGo_step hlt HG.out
   have HX : Hid (evGo d [ls[j].1] = none → evenB ls = false) := evenB_bad hlt HG.out
   obtain ⟨x, hx⟩ : ∃ x, x = ls[j].1 := ⟨_, rfl⟩
   rw [← hx] at c0 HS HX
   clear q0 q1 q2 q3 q4 hA hx HG
   have HB1 : Hid (∀ o, Below w.heap.size w (wr.alloc o)) := fun o => HB.out.alloc HB.out.size o
   by_cases h0 : d = 0
   ·subst h0
    cases hcl : closesK x with
    | true =>
     have HE : Hid (evenB ls = false) := HX.out (by simp [evGo, hcl])
     go_wp2_with (go_at_call 74; refine (closes_any _ _).mono ?_; rintro e w1 ⟨rfl, rfl⟩; rw [hcl])
     go_ret
     exact ⟨by rw [HE.out] <;> rfl, HB1.out _⟩
    | false =>
     have hn11 : (x == 11) = false := by
      cases h11 : (x == 11) with
      | false => rfl
      | true => rw [beq_iff_eq] at h11; subst h11; revert hcl; decide
     cases hop : opensK x with
     | true =>
      have HE : Hid (evGo 0 (kinds (ls.take (j + 1))) = some 1) := by rw [Hid, HS.out]; simp [evGo, hcl, hop]
      go_wp2_with (first | (go_at_call 74; refine (closes_any _ _).mono ?_; rintro e w1 ⟨rfl, rfl⟩; rw [hcl]) | (go_at_call 84; refine (opens_any _ _).mono ?_; rintro e w1 ⟨rfl, rfl⟩; rw [hop]))
      go_roundw
      case rel => exact ⟨j + 1, 1, by omega, by go_num, by go_num, HE, by omega, HB1.out _⟩
      case measure => simp [intOf]; omega
     | false =>
      have HE : Hid (evGo 0 (kinds (ls.take (j + 1))) = some 0) := by rw [Hid, HS.out]; simp [evGo, hcl, hop, hn11]
      go_wp2_with (first | (go_at_call 74; refine (closes_any _ _).mono ?_; rintro e w1 ⟨rfl, rfl⟩; rw [hcl]) | (go_at_call 84; refine (opens_any _ _).mono ?_; rintro e w1 ⟨rfl, rfl⟩; rw [hop]))
      go_roundw
      case rel => exact ⟨j + 1, 0, by omega, by go_num, by go_num, HE, by omega, HB1.out _⟩
      case measure => simp [intOf]; omega
   ·have hd0 : ((d : Int) == 0) = false := by simp; omega
    cases hop : opensK x with
    | true =>
     have hn11 := opens_not11 hop
     have HE : Hid (evGo 0 (kinds (ls.take (j + 1))) = some (d + 1)) := by rw [Hid, HS.out]; simp [evGo, h0, hop]
     go_wp2_with (go_at_call 84; refine (opens_any _ _).mono ?_; rintro e w1 ⟨rfl, rfl⟩; rw [hop])
     go_roundw
     case rel => exact ⟨j + 1, d + 1, by omega, by go_num, by go_num, HE, by omega, HB1.out _⟩
     case measure => simp [intOf]; omega
    | false =>
     cases h11 : (x == 11) with
     | true =>
      have HE : Hid (evGo 0 (kinds (ls.take (j + 1))) = some (d - 1)) := by rw [Hid, HS.out]; simp [evGo, h0, hop, h11]
      go_wp2_with (go_at_call 84; refine (opens_any _ _).mono ?_; rintro e w1 ⟨rfl, rfl⟩; rw [hop])
      go_roundw
      case rel => exact ⟨j + 1, d - 1, by omega, by go_num, by go_num, HE, by omega, HB1.out _⟩
      case measure => simp [intOf]; omega
     | false =>
      have HE : Hid (evGo 0 (kinds (ls.take (j + 1))) = some d) := by rw [Hid, HS.out]; simp [evGo, h0, hop, h11]
      go_wp2_with (go_at_call 84; refine (opens_any _ _).mono ?_; rintro e w1 ⟨rfl, rfl⟩; rw [hop])
      go_roundw
      case rel => exact ⟨j + 1, d, by omega, by go_num, by go_num, HE, by omega, HB1.out _⟩
      case measure => simp [intOf]; omega
  ·have e : j = ls.length := by omega
   subst e
   have HE : Hid (evenB ls = ((d : Int) == 0)) := evenB_end HG.out
   go_wp2
   go_ret
   exact ⟨by rw [HE.out] <;> rfl, HB.out⟩
theorem l23Even_any (ao : Option Addr) (cap : Nat) (ls : List Ln) (w : World) (hl : ls.length ≤ 4398046511104) (hi : LinesAt w.heap.size w ao ls) :
  Calls Tryz.prog 50 #[.slice ao ls.length cap] w fun e w' => e = .returned (.bool (evenB ls)) ∧ Below w.heap.size w w' := by
 have HI : Hid (LinesAt w.heap.size w ao ls) := hi
 clear hi
 go_enter Tryz.func50, Tryz.ntmps50
 go_wp2_with fail
 go_loopw [3, 4] (fun dv iv wr => ∃ j d : Nat, j ≤ ls.length ∧ dv = .int .i64 d ∧ iv = .int .i64 j ∧ Hid (evGo 0 (kinds (ls.take j)) = some d) ∧ d ≤ j ∧ Hid (Below w.heap.size w wr)) (fun _ iv _ => ls.length - (intOf iv).toNat)
 case atStart => exact ⟨0, 0, Nat.zero_le _, rfl, rfl, rfl, Nat.le_refl _, Below.refl _ _⟩
 case round =>
  obtain ⟨j, d, hj, rfl, rfl, HG, hd, HB⟩ := hrel
  by_cases hlt : j < ls.length
  ·obtain ⟨b, off, rfl, hB, ao2, cap2, hc2, q0, q1, q2, q3, q4, hA⟩ := HI.out j hlt
   have c0 := (HB.out.cell (p := ⟨b, off + j * 5, none⟩) hB).trans q0
   have HS : Hid (evGo 0 (kinds (ls.take (j + 1))) = evGo d [ls[j].1]) := evGo_step hlt HG.out
   have HX : Hid (evGo d [ls[j].1] = none → evenB ls = false) := evenB_bad hlt HG.out
   obtain ⟨x, hx⟩ : ∃ x, x = ls[j].1 := ⟨_, rfl⟩
   rw [← hx] at c0 HS HX
   clear q0 q1 q2 q3 q4 hA hx HG
   cases hop : opensK x with
   | true =>
    have hcl : closesK x = false := by
     cases hcl : closesK x with
     | false => rfl
     | true => have := closes_opens hcl; rw [hop] at this; cases this
    have HE : Hid (evGo 0 (kinds (ls.take (j + 1))) = some (d + 1)) := by rw [Hid, HS.out]; simp [evGo, hcl, hop]
    go_wp2_with (go_at_call 71; refine (l2Opens_any _ _).mono ?_; rintro e w1 ⟨rfl, rfl⟩; rw [hop])
    go_roundw
    case rel => exact ⟨j + 1, d + 1, by omega, by go_num, by go_num, HE, by omega, HB⟩
    case measure => simp [intOf]; omega
   | false =>
    by_cases h11 : x = 11
    ·subst h11
     by_cases h0 : d = 0
     ·subst h0
      have HE : Hid (evenB ls = false) := HX.out (by simp [evGo]; decide)
      go_wp2_with (go_at_call 71; refine (l2Opens_any _ _).mono ?_; rintro e w1 ⟨rfl, rfl⟩; rw [hop])
      go_ret
      exact ⟨by rw [HE.out] <;> rfl, HB.out⟩
     ·have HE : Hid (evGo 0 (kinds (ls.take (j + 1))) = some (d - 1)) := by rw [Hid, HS.out]; simp [evGo, h0, hop]
      go_wp2_with (go_at_call 71; refine (l2Opens_any _ _).mono ?_; rintro e w1 ⟨rfl, rfl⟩; rw [hop])
      go_roundw
      case rel => exact ⟨j + 1, d - 1, by omega, by go_num, by go_num, HE, by omega, HB⟩
      case measure => simp [intOf]; omega
    ·have b11 : (x == 11) = false := beq_eq_false_iff_ne.2 h11
     by_cases hc : closesK x = true
     ·have h2 : x = 7 ∨ x = 10 := by
       rw [closesK_iff] at hc
       rcases hc with h | h | h
       ·exact .inl h
       ·exact .inr h
       ·exact absurd h h11
      by_cases h0 : d = 0
      ·subst h0
       have HE : Hid (evenB ls = false) := HX.out (by simp [evGo, hc])
       rcases h2 with rfl | rfl
       all_goals
        go_wp2_with (go_at_call 71; refine (l2Opens_any _ _).mono ?_; rintro e w1 ⟨rfl, rfl⟩; rw [hop])
        go_ret
        exact ⟨by rw [HE.out] <;> rfl, HB.out⟩
      ·have hd0 : ((d : Int) == 0) = false := by simp; omega
       have HE : Hid (evGo 0 (kinds (ls.take (j + 1))) = some d) := by rw [Hid, HS.out]; simp [evGo, h0, hop, b11]
       rcases h2 with rfl | rfl
       all_goals
        go_wp2_with (go_at_call 71; refine (l2Opens_any _ _).mono ?_; rintro e w1 ⟨rfl, rfl⟩; rw [hop])
        go_roundw
        case rel => exact ⟨j + 1, d, by omega, by go_num, by go_num, HE, by omega, HB⟩
        case measure => simp [intOf]; omega
     ·have b7 : (x == 7) = false := by
       cases h : (x == 7) with
       | false => rfl
       | true => rw [beq_iff_eq] at h; subst h; exact absurd rfl hc
      have b10 : (x == 10) = false := by
       cases h : (x == 10) with
       | false => rfl
       | true => rw [beq_iff_eq] at h; subst h; exact absurd rfl hc
      have HE : Hid (evGo 0 (kinds (ls.take (j + 1))) = some d) := by rw [Hid, HS.out]; simp [evGo, hc, hop, b11]
      go_wp2_with (go_at_call 71; refine (l2Opens_any _ _).mono ?_; rintro e w1 ⟨rfl, rfl⟩; rw [hop])
      go_roundw
      case rel => exact ⟨j + 1, d, by omega, by go_num, by go_num, HE, by omega, HB⟩
      case measure => simp [intOf]; omega
  ·have e : j = ls.length := by omega
   subst e
   have HE : Hid (evenB ls = ((d : Int) == 0)) := evenB_end HG.out
   go_wp2
   go_ret
   exact ⟨by rw [HE.out] <;> rfl, HB.out⟩
end
section
open Go.RowKit
def patchL (l : Ln) (name : ByteArray) : Bool := (l.1 == 14) && (l.2.name.toList == name.toList)
def patchB (ls : List Ln) (name : ByteArray) : Bool := ls.any (fun l => patchL l name)
theorem patchB_snoc {ls : List Ln} {name : ByteArray} {k : Nat} (hk : k < ls.length) (h : patchB (ls.take k) name = false) : patchB (ls.take (k + 1)) name = patchL ls[k] name := by
 unfold patchB at h ⊢
 rw [List.take_succ_eq_append_getElem hk, List.any_append, h]
 simp
theorem patchB_yes {ls : List Ln} {name : ByteArray} {k : Nat} (hk : k < ls.length) (h : patchL ls[k] name = true) : patchB ls name = true := by
 unfold patchB
 rw [List.any_eq_true]
 exact ⟨ls[k], List.getElem_mem hk, h⟩
theorem patch1_any (l : Ln) (ao : Option Addr) (cap p : Nat) (name : ByteArray) (w : World) (hc : w.cell? ⟨p, 0, none⟩ = some (.string name)) (hp : p < w.heap.size) :
  Calls Tryz.prog 86 #[.agg #[.int .i64 l.1, .string l.2.to, .string l.2.name, .slice ao l.2.args.length cap, .string l.2.undo], .pointer (some ⟨p, 0, none⟩)] w fun e w' => e = .returned (.bool (patchL l name)) ∧ Below w.heap.size w w' := by
 obtain ⟨k, d⟩ := l
 simp only at ⊢
 have c1 : ∀ o : Obj, (w.alloc o).cell? ⟨p, 0, none⟩ = some (.string name) := fun o => (((Below.refl w.heap.size w).alloc (Nat.le_refl _) o).cell (p := ⟨p, 0, none⟩) hp).trans hc
 have HB : Hid (∀ o : Obj, Below w.heap.size w (w.alloc o)) := fun o => (Below.refl _ _).alloc (Nat.le_refl _) o
 clear hc
 cases q1 : (k == 14) with
 | false =>
  go_enter Tryz.func86, Tryz.ntmps86
  go_wp2
  go_ret
  exact ⟨by simp only [patchL, q1] <;> rfl, HB.out _⟩
 | true =>
  cases q2 : (d.name.toList == name.toList) with
  | false =>
   go_enter Tryz.func86, Tryz.ntmps86
   go_wp2
   go_ret
   exact ⟨by simp only [patchL, q1, q2] <;> rfl, HB.out _⟩
  | true =>
   go_enter Tryz.func86, Tryz.ntmps86
   go_wp2
   go_ret
   exact ⟨by simp only [patchL, q1, q2] <;> rfl, HB.out _⟩
theorem indexFunc_any (ao : Option Addr) (cap : Nat) (ls : List Ln) (p : Nat) (name : ByteArray) (w : World) (hl : ls.length ≤ 4398046511104) (hi : LinesAt w.heap.size w ao ls) (hc : w.cell? ⟨p, 0, none⟩ = some (.string name)) (hp : p < w.heap.size) :
  Calls Tryz.prog 117 #[.slice ao ls.length cap, .func (.func 86) #[] #[.pointer (some ⟨p, 0, none⟩)]] w fun e w' => ∃ n : Int, e = .returned (.int .i64 n) ∧ decide (0 ≤ n) = patchB ls name ∧ Below w.heap.size w w' := by
 have HI : Hid (LinesAt w.heap.size w ao ls) := hi
 have HC : Hid (w.cell? ⟨p, 0, none⟩ = some (.string name)) := hc
 clear hi hc
 go_enter Tryz.func117, Tryz.ntmps117
 go_wp2_with fail
 go_loopw [8] (fun iv wr => ∃ j : Nat, j ≤ ls.length ∧ iv = .int .i64 j ∧ Hid (patchB (ls.take j) name = false) ∧ Hid (Below w.heap.size w wr)) (fun iv _ => ls.length - (intOf iv).toNat)
 case atStart => exact ⟨0, Nat.zero_le _, rfl, rfl, Below.refl _ _⟩
 case round =>
  obtain ⟨j, hj, rfl, HG, HB⟩ := hrel
  by_cases hlt : j < ls.length
  ·obtain ⟨b, off, rfl, hB, ao2, cap2, hc2, q0, q1, q2, q3, q4, hA⟩ := HI.out j hlt
   have c0 := (HB.out.cell (p := ⟨b, off + j * 5, none⟩) hB).trans q0
   have c1 := (HB.out.cell (p := ⟨b, off + j * 5 + 1, none⟩) hB).trans q1
   have c2 := (HB.out.cell (p := ⟨b, off + j * 5 + 2, none⟩) hB).trans q2
   have c3 := (HB.out.cell (p := ⟨b, off + j * 5 + 3, none⟩) hB).trans q3
   have c4 := (HB.out.cell (p := ⟨b, off + j * 5 + 4, none⟩) hB).trans q4
   have hcp := (HB.out.cell (p := ⟨p, 0, none⟩) hp).trans HC.out
   have hps : p < wr.heap.size := Nat.lt_of_lt_of_le hp HB.out.size
   have HP1 := (show Hid _ from patch1_any ls[j] ao2 cap2 p name wr hcp hps)
   have HS : Hid (patchB (ls.take (j + 1)) name = patchL ls[j] name) := patchB_snoc hlt HG.out
   have HY : Hid (patchL ls[j] name = true → patchB ls name = true) := patchB_yes hlt
   clear q0 q1 q2 q3 q4 hA HG
   cases hpl : patchL ls[j] name with
   | true =>
    have HE : Hid (patchB ls name = true) := HY.out hpl
    go_wp2_with (go_at_call 86; refine Calls.mono HP1.out ?_; rintro e w1 ⟨rfl, hb1⟩; rw [hpl]; have HB1 : Hid (Below w.heap.size w w1) := HB.out.trans (hb1.mono HB.out.size); clear hb1)
    go_ret
    exact ⟨_, rfl, by rw [HE.out]; simp, HB1.out⟩
   | false =>
    have HE : Hid (patchB (ls.take (j + 1)) name = false) := HS.out.trans hpl
    go_wp2_with (go_at_call 86; refine Calls.mono HP1.out ?_; rintro e w1 ⟨rfl, hb1⟩; rw [hpl]; have HB1 : Hid (Below w.heap.size w w1) := HB.out.trans (hb1.mono HB.out.size); clear hb1)
    go_roundw
    case rel => exact ⟨j + 1, by omega, by go_num, HE, HB1⟩
    case measure => simp [intOf]; omega
  ·have e : j = ls.length := by omega
   subst e
   have HE : Hid (patchB ls name = false) := by have := HG.out; rwa [List.take_length] at this
   go_wp2
   go_ret
   exact ⟨_, rfl, by rw [HE.out]; simp, HB.out⟩
theorem hasPatch_any (ao : Option Addr) (cap : Nat) (ls : List Ln) (name : ByteArray) (w : World) (hl : ls.length ≤ 4398046511104) (hi : LinesAt w.heap.size w ao ls) :
  Calls Tryz.prog 53 #[.slice ao ls.length cap, .string name] w fun e w' => e = .returned (.bool (patchB ls name)) ∧ Below w.heap.size w w' := by
 have HB : Hid (∀ o : Obj, Below w.heap.size w (w.alloc o)) := fun o => (Below.refl _ _).alloc (Nat.le_refl _) o
 have HI : Hid (LinesAt w.heap.size w ao ls) := hi
 clear hi
 go_enter Tryz.func53, Tryz.ntmps53
 go_wp2_with fail
 go_enter Tryz.func85, Tryz.ntmps85
 go_wp2_with fail
 refine (indexFunc_any ao cap ls w.heap.size name _ hl (HI.out.later (HB.out _)) (by simp) (by simp)).mono ?_
 rintro e w1 ⟨n, rfl, hn, hb1⟩
 have HB1 : Hid (Below w.heap.size w w1) := (HB.out _).trans (hb1.mono (by simp))
 have HN : Hid (decide (0 ≤ n) = patchB ls name) := hn
 clear hn hb1
 go_wp2
 go_ret
 exact ⟨by rw [← HN.out] <;> rfl, HB1.out⟩
theorem l23New_any (ao : Option Addr) (cap : Nat) (ls : List Ln) (name : ByteArray) (w : World) (hl : ls.length ≤ 4398046511104) (hi : LinesAt w.heap.size w ao ls) :
  Calls Tryz.prog 48 #[.slice ao ls.length cap, .string name] w fun e w' => e = .returned (.bool (!patchB ls name)) ∧ w' = w := by
 have HI : Hid (LinesAt w.heap.size w ao ls) := hi
 clear hi
 go_enter Tryz.func48, Tryz.ntmps48
 go_wp2_with fail
 go_loop [5] (fun iv => ∃ j : Nat, j ≤ ls.length ∧ iv = .int .i64 j ∧ Hid (patchB (ls.take j) name = false)) (fun iv => ls.length - (intOf iv).toNat)
 case atStart => exact ⟨0, Nat.zero_le _, rfl, rfl⟩
 case round =>
  obtain ⟨j, hj, rfl, HG⟩ := hrel
  by_cases hlt : j < ls.length
  ·obtain ⟨b, off, rfl, hB, ao2, cap2, hc2, q0, q1, q2, q3, q4, hA⟩ := HI.out j hlt
   have HS : Hid (patchB (ls.take (j + 1)) name = patchL ls[j] name) := patchB_snoc hlt HG.out
   have HY : Hid (patchL ls[j] name = true → patchB ls name = true) := patchB_yes hlt
   clear q1 q3 q4 hA HG
   cases k1 : (ls[j].1 == 14) with
   | false =>
    have HE : Hid (patchB (ls.take (j + 1)) name = false) := HS.out.trans (by simp only [patchL, k1] <;> rfl)
    go_wp2
    go_round
    case rel => exact ⟨j + 1, by omega, by go_num, HE⟩
    case measure => simp [intOf]; omega
   | true =>
    cases k2 : (ls[j].2.name.toList == name.toList) with
    | false =>
     have HE : Hid (patchB (ls.take (j + 1)) name = false) := HS.out.trans (by simp only [patchL, k1, k2] <;> rfl)
     go_wp2
     go_round
     case rel => exact ⟨j + 1, by omega, by go_num, HE⟩
     case measure => simp [intOf]; omega
    | true =>
     have HE : Hid (patchB ls name = true) := HY.out (by simp only [patchL, k1, k2] <;> rfl)
     go_wp2
     go_ret
     exact ⟨by rw [HE.out] <;> rfl, rfl⟩
  ·have e : j = ls.length := by omega
   subst e
   have HE : Hid (patchB ls name = false) := by have := HG.out; rwa [List.take_length] at this
   go_wp2
   go_ret
   exact ⟨by rw [HE.out] <;> rfl, rfl⟩
end
section
open Go.RowKit
def lnK (k : Int) (name : ByteArray) : Ln := (k, ⟨⟨#[]⟩, name, [], ⟨#[]⟩⟩)
def litC (k : Int) (name : ByteArray) : List Value := [.int .i64 k, .string ⟨#[]⟩, .string name, .slice none 0 0, .string ⟨#[]⟩]
theorem app_lines {w : World} {ops : Array Oper} {rest : List Oper} {o : Oper} {a : Act} {Q : Exit → Act → World → Prop} (hgd : o.guard = none) (s x : Operand)
  (ho : o.op = .call { callee := .builtin .append, args := #[s, x], argTypes := #[27, 27] }) (base B : Nat) (v : Value) (ps : List (Ln × Value)) (hs : a.eval s = v) (hown : RowL base w v ps)
  (ao : Option Addr) (c : Nat) (ls : List Ln) (hx : a.eval x = .slice ao ls.length c) (hn : ao = none → c = 0) (hi : LinesAt B w ao ls) (hB : B ≤ base) (hl : ps.length + ls.length ≤ 8388608) (hbase : base ≤ w.heap.size)
  (h : ∀ v' w' qs, qs.map (·.1) = ls → RowL base w' v' (ps ++ qs) → w.grownBy w' v.ownBlock → (v'.ownBlock = v.ownBlock ∨ v'.ownBlock = some w.heap.size) → wpList Tryz.prog ops Q rest (a.put o.dst v') w') : wpList Tryz.prog ops Q (o :: rest) a w := by
 obtain ⟨i0, hi0, hz0, hz1, hz2⟩ := info_parts Tryz.infoLn
 obtain ⟨qs, hm, ha, hc⟩ := lines_rows hi
 have hql : qs.length = ls.length := by rw [← hm]; simp
 have hq : ∀ q ∈ qs, ArgG w.heap.size w v.ownBlock q := fun q hqm => (ha q hqm).lift (by omega) (fun k hk => by have := (hown.row.lt k hk).1; omega)
 cases ao with
 | none =>
  have hls : ls = [] := by
   cases ls with
   | nil => rfl
   | cons l r => obtain ⟨b, off, e, _⟩ := hi 0 (by simp); cases e
  subst hls
  have hqs : qs = [] := by simpa using hm
  subst hqs
  have hc0 := hn rfl
  subst hc0
  refine wpList_append_own_none hgd s x 27 ho base 49 i0 5 Tryz.underlying27 hi0 v ps.length _ hs hown.row hx ?_
  exact h v w [] rfl (by simpa using hown) grown_refl (.inl rfl)
 | some ad =>
  refine wpList_append_own_at w hgd s x 27 ho base 49 i0 (.agg #[.int .i64 0, .string ⟨#[]⟩, .string ⟨#[]⟩, .slice none 0 0, .string ⟨#[]⟩]) 5 80 Tryz.underlying27 hi0 hz0 hz1 hz2 rfl (by decide) v ps.length _ hs hown.row ad ls.length c (qs.flatMap lnF) hx
   (by rw [flat_count lnF_len, hql]) (fun j u hj => ?_) (lnF_one qs ha) (by unfold maxLen; omega) (by omega) hbase (fun v' w' h1 h2 _ h4 => ?_)
  ·obtain ⟨b, off, e, _, hcell⟩ := hc j u hj
   obtain rfl : ad = ⟨b, off, none⟩ := Option.some.inj e
   have e2 : (⟨b, off, none⟩ : Addr).add j = ⟨b, off + j, none⟩ := by
    unfold Addr.add
    split
    ·rename_i h; subst h; rfl
    ·rfl
   rw [e2]; exact hcell
  ·exact h v' w' qs hm (hown.app hq (by rw [hql]; exact h1) h2 h4) h2 h4
theorem app_lit {w : World} {ops : Array Oper} {rest : List Oper} {o : Oper} {a : Act} {Q : Exit → Act → World → Prop} (hgd : o.guard = none) (s x : Operand)
  (ho : o.op = .call { callee := .builtin .append, args := #[s, x], argTypes := #[27, 27] }) (base : Nat) (v : Value) (ps : List (Ln × Value)) (hs : a.eval s = v) (hown : RowL base w v ps)
  (n : Nat) (k : Int) (name : ByteArray) (hx : a.eval x = .slice (some ⟨n, 0, none⟩) 1 1) (hc : ∀ j u, (litC k name)[j]? = some u → w.cell? ((⟨n, 0, none⟩ : Addr).add j) = some u) (hl : ps.length + 1 ≤ 8388608) (hbase : base ≤ w.heap.size)
  (h : ∀ v' w', RowL base w' v' (ps ++ [(lnK k name, .slice none 0 0)]) → w.grownBy w' v.ownBlock → (v'.ownBlock = v.ownBlock ∨ v'.ownBlock = some w.heap.size) → wpList Tryz.prog ops Q rest (a.put o.dst v') w') : wpList Tryz.prog ops Q (o :: rest) a w := by
 obtain ⟨i0, hi0, hz0, hz1, hz2⟩ := info_parts Tryz.infoLn
 refine wpList_append_own_at w hgd s x 27 ho base 49 i0 (.agg #[.int .i64 0, .string ⟨#[]⟩, .string ⟨#[]⟩, .slice none 0 0, .string ⟨#[]⟩]) 5 80 Tryz.underlying27 hi0 hz0 hz1 hz2 rfl (by decide) v ps.length _ hs hown.row ⟨n, 0, none⟩ 1 1 (litC k name) hx
  rfl hc (fun u hu => ?_) (by unfold maxLen; omega) (by omega) hbase (fun v' w' h1 h2 _ h4 => ?_)
 ·have hu' : u = .int .i64 k ∨ u = .string ⟨#[]⟩ ∨ u = .string name ∨ u = .slice none 0 0 ∨ u = .string ⟨#[]⟩ := by simpa [litC] using hu
  rcases hu' with rfl | rfl | rfl | rfl | rfl <;> rfl
 ·refine h v' w' (hown.app (qs := [(lnK k name, .slice none 0 0)]) (fun q hq => ?_) h1 h2 h4) h2 h4
  have : q = (lnK k name, .slice none 0 0) := by simpa using hq
  subst this
  exact ArgG.bare _ rfl
theorem row_lit (w : World) (k : Int) (name : ByteArray) : RowL w.heap.size (w.alloc (.cells #[.int .i64 k, .string ⟨#[]⟩, .string name, .slice none 0 0, .string ⟨#[]⟩] 49)) (.slice (some ⟨w.heap.size, 0, none⟩) 1 1) [(lnK k name, .slice none 0 0)] :=
 ⟨World.ownsRow_lit w #[.int .i64 k, .string ⟨#[]⟩, .string name, .slice none 0 0, .string ⟨#[]⟩] 1 (Nat.le_refl _) (by decide) rfl, fun q hq => by
  have : q = (lnK k name, .slice none 0 0) := by simpa using hq
  subst this
  exact ArgG.bare _ rfl⟩
theorem lit_cells (w : World) (k : Int) (name : ByteArray) : ∀ j u, (litC k name)[j]? = some u → (w.alloc (.cells #[.int .i64 k, .string ⟨#[]⟩, .string name, .slice none 0 0, .string ⟨#[]⟩] 49)).cell? ((⟨w.heap.size, 0, none⟩ : Addr).add j) = some u :=
 World.news_of_block (cs := #[.int .i64 k, .string ⟨#[]⟩, .string name, .slice none 0 0, .string ⟨#[]⟩]) (heap_alloc_new w _)
theorem app_below {base : Nat} {w0 w w' : World} {v : Value} {n : Nat} {xs : List Value} (hb : Below base w0 w) (ho : w.ownsRow base 49 5 v n xs) (hg : w.grownBy w' v.ownBlock) (hbase : base ≤ w.heap.size) : Below base w0 w' :=
 hb.grown hg hbase (fun k hk => (ho.lt k hk).1)
theorem len_map {qs : List (Ln × Value)} {ls : List Ln} (h : qs.map (·.1) = ls) {n : Nat} (hl : ls.length ≤ n) : qs.length ≤ n := by subst h; simpa using hl
def patchLs (name : ByteArray) (ls ms : List Ln) : List Ln := lnK 14 name :: ls ++ (if 0 < ms.length then lnK 7 ⟨#[]⟩ :: ms else []) ++ [lnK 11 ⟨#[]⟩]
theorem patchOf_any (name : ByteArray) (ao bo : Option Addr) (ca cb : Nat) (ls ms : List Ln) (w : World) (hla : ls.length ≤ 1048576) (hlb : ms.length ≤ 1048576) (hna : ao = none → ca = 0) (hnb : bo = none → cb = 0) (hi : LinesAt w.heap.size w ao ls) (hj : LinesAt w.heap.size w bo ms) :
  Calls Tryz.prog 55 #[.string name, .slice ao ls.length ca, .slice bo ms.length cb] w fun e w' => ∃ v ps, e = .returned v ∧ Below w.heap.size w w' ∧ RowL w.heap.size w' v ps ∧ ps.map (·.1) = patchLs name ls ms := by
 have HI : Hid (LinesAt w.heap.size w ao ls) := hi
 have HJ : Hid (LinesAt w.heap.size w bo ms) := hj
 have HNA : Hid (ao = none → ca = 0) := hna
 have HNB : Hid (bo = none → cb = 0) := hnb
 clear hi hj hna hnb
 have HR0 : Hid (RowL w.heap.size (w.alloc (.cells #[.int .i64 14, .string ⟨#[]⟩, .string name, .slice none 0 0, .string ⟨#[]⟩] 49)) (.slice (some ⟨w.heap.size, 0, none⟩) 1 1) [(lnK 14 name, .slice none 0 0)]) := row_lit w 14 name
 have HB0 : Hid (Below w.heap.size w (w.alloc (.cells #[.int .i64 14, .string ⟨#[]⟩, .string name, .slice none 0 0, .string ⟨#[]⟩] 49))) := (Below.refl _ _).alloc (Nat.le_refl _) _
 by_cases h0 : 0 < ms.length
 ·go_enter Tryz.func55, Tryz.ntmps55
  go_wp2_with (at_builtin; first | (refine app_lines rfl _ _ rfl w.heap.size w.heap.size _ _ rfl HR0.out ao ca ls rfl HNA.out (HI.out.below HB0.out) (Nat.le_refl _) (by simp; omega) (by simp) ?_; intro v1 w1 qs1 hm1 hr1 hg1 ho1; have HB1 : Hid (Below w.heap.size w w1) := app_below HB0.out HR0.out.row hg1 (by simp); have HR1 : Hid (RowL w.heap.size w1 v1 ([(lnK 14 name, .slice none 0 0)] ++ qs1)) := hr1; have HM1 : Hid (qs1.map (·.1) = ls) := hm1; have hq1 : qs1.length ≤ 1048576 := len_map hm1 hla; have hs1 : w.heap.size ≤ w1.heap.size := HB1.out.size; clear hm1 hr1 hg1 ho1) | (refine app_lit rfl _ _ rfl w.heap.size _ _ rfl (HR1.out.below ((Below.refl w1.heap.size w1).alloc (Nat.le_refl _) _)) w1.heap.size 7 ⟨#[]⟩ rfl (lit_cells w1 7 ⟨#[]⟩) (by simp; omega) (by simp; omega) ?_; intro v2 w2 hr2 hg2 ho2; have HB2 : Hid (Below w.heap.size w w2) := app_below (HB1.out.alloc hs1 _) (own_below HR1.out.row ((Below.refl w1.heap.size w1).alloc (Nat.le_refl _) _)) hg2 (by simp; omega); have HR2 : Hid (RowL w.heap.size w2 v2 (([(lnK 14 name, Value.slice none 0 0)] ++ qs1) ++ [(lnK 7 ⟨#[]⟩, Value.slice none 0 0)])) := hr2; have hs2 : w.heap.size ≤ w2.heap.size := HB2.out.size; clear hr2 hg2 ho2) | (refine app_lines rfl _ _ rfl w.heap.size w.heap.size _ _ rfl HR2.out bo cb ms rfl HNB.out (HJ.out.below HB2.out) (Nat.le_refl _) (by simp; omega) hs2 ?_; intro v3 w3 qs3 hm3 hr3 hg3 ho3; have HB3 : Hid (Below w.heap.size w w3) := app_below HB2.out HR2.out.row hg3 hs2; have HR3 : Hid (RowL w.heap.size w3 v3 ((([(lnK 14 name, Value.slice none 0 0)] ++ qs1) ++ [(lnK 7 ⟨#[]⟩, Value.slice none 0 0)]) ++ qs3)) := hr3; have HM3 : Hid (qs3.map (·.1) = ms) := hm3; have hq3 : qs3.length ≤ 1048576 := len_map hm3 hlb; have hs3 : w.heap.size ≤ w3.heap.size := HB3.out.size; clear hm3 hr3 hg3 ho3) | (refine app_lit rfl _ _ rfl w.heap.size _ _ rfl (HR3.out.below ((Below.refl w3.heap.size w3).alloc (Nat.le_refl _) _)) w3.heap.size 11 ⟨#[]⟩ rfl (lit_cells w3 11 ⟨#[]⟩) (by simp; omega) (by simp; omega) ?_; intro v4 w4 hr4 hg4 ho4; have HB4 : Hid (Below w.heap.size w w4) := app_below (HB3.out.alloc hs3 _) (own_below HR3.out.row ((Below.refl w3.heap.size w3).alloc (Nat.le_refl _) _)) hg4 (by simp; omega); have HR4 : Hid (RowL w.heap.size w4 v4 (((([(lnK 14 name, Value.slice none 0 0)] ++ qs1) ++ [(lnK 7 ⟨#[]⟩, Value.slice none 0 0)]) ++ qs3) ++ [(lnK 11 ⟨#[]⟩, Value.slice none 0 0)])) := hr4; have hs4 : w.heap.size ≤ w4.heap.size := HB4.out.size; clear hr4 hg4 ho4))
  go_ret
  refine ⟨v4, _, rfl, HB4.out, HR4.out, ?_⟩
  simp only [List.map_append, List.map_cons, List.map_nil, HM1.out, HM3.out, patchLs, if_pos h0]
  simp
 ·go_enter Tryz.func55, Tryz.ntmps55
  go_wp2_with (at_builtin; first | (refine app_lines rfl _ _ rfl w.heap.size w.heap.size _ _ rfl HR0.out ao ca ls rfl HNA.out (HI.out.below HB0.out) (Nat.le_refl _) (by simp; omega) (by simp) ?_; intro v1 w1 qs1 hm1 hr1 hg1 ho1; have HB1 : Hid (Below w.heap.size w w1) := app_below HB0.out HR0.out.row hg1 (by simp); have HR1 : Hid (RowL w.heap.size w1 v1 ([(lnK 14 name, .slice none 0 0)] ++ qs1)) := hr1; have HM1 : Hid (qs1.map (·.1) = ls) := hm1; have hq1 : qs1.length ≤ 1048576 := len_map hm1 hla; have hs1 : w.heap.size ≤ w1.heap.size := HB1.out.size; clear hm1 hr1 hg1 ho1) | (refine app_lit rfl _ _ rfl w.heap.size _ _ rfl (HR1.out.below ((Below.refl w1.heap.size w1).alloc (Nat.le_refl _) _)) w1.heap.size 11 ⟨#[]⟩ rfl (lit_cells w1 11 ⟨#[]⟩) (by simp; omega) (by simp; omega) ?_; intro v2 w2 hr2 hg2 ho2; have HB2 : Hid (Below w.heap.size w w2) := app_below (HB1.out.alloc hs1 _) (own_below HR1.out.row ((Below.refl w1.heap.size w1).alloc (Nat.le_refl _) _)) hg2 (by simp; omega); have HR2 : Hid (RowL w.heap.size w2 v2 (([(lnK 14 name, Value.slice none 0 0)] ++ qs1) ++ [(lnK 11 ⟨#[]⟩, Value.slice none 0 0)])) := hr2; have hs2 : w.heap.size ≤ w2.heap.size := HB2.out.size; clear hr2 hg2 ho2))
  go_ret
  refine ⟨v2, _, rfl, HB2.out, HR2.out, ?_⟩
  simp only [List.map_append, List.map_cons, List.map_nil, HM1.out, patchLs, if_neg h0]
  simp
end
section
open Go.RowKit
theorem grow_nil (n : Nat) (h0 : 0 < n) (hn : n ≤ 8388608) (w : World) : Calls Tryz.prog 87 #[.slice none 0 0, .int .i64 n] w fun e w' => ∃ v, e = .returned v ∧ Below w.heap.size w w' ∧ RowL w.heap.size w' v [] := by
 obtain ⟨i0, hi0, hz0, hz1, hz2⟩ := info_parts Tryz.infoLn
 have happ := Lib.run_append_nil_zeros (P := Tryz.prog) w 27 3 27 49 i0 (.agg #[.int .i64 0, .string ⟨#[]⟩, .string ⟨#[]⟩, .slice none 0 0, .string ⟨#[]⟩]) .i64 .i64 Tryz.underlying27 Tryz.underlying3 hi0 hz0 n h0 (by omega) (by omega) (by rw [hz2]; omega)
 have hge := grownCap_ge w n 0 49
 have hle := grownCap_le_maxLen w n 0 49 (by unfold maxLen; omega)
 obtain ⟨cp, hcp⟩ : ∃ cp, cp = grownCap w n 0 49 := ⟨_, rfl⟩
 rw [← hcp] at happ hge hle
 obtain ⟨cur, hcur⟩ : ∃ cur, cur = Builtin.zeroCells (Value.agg #[.int .i64 0, .string ⟨#[]⟩, .string ⟨#[]⟩, .slice none 0 0, .string ⟨#[]⟩]).cells n ++ Builtin.zeroCells (Value.agg #[.int .i64 0, .string ⟨#[]⟩, .string ⟨#[]⟩, .slice none 0 0, .string ⟨#[]⟩]).cells (cp - n) := ⟨_, rfl⟩
 rw [← hcur] at happ
 have hs : cur.size = cp * 5 := by
  rw [hcur, Array.size_append, size_zeroCells, size_zeroCells]
  show n * 5 + (cp - n) * 5 = cp * 5
  omega
 have HR : Hid (RowL w.heap.size (w.drew.alloc (.cells cur 49)) (.slice (some ⟨w.heap.size, 0, none⟩) 0 cp) []) := ⟨World.ownsRow_made w.drew cur cp (Nat.le_refl _) hle hs, fun p hp => by simp at hp⟩
 have HB : Hid (Below w.heap.size w (w.drew.alloc (.cells cur 49))) := (Below.refl _ _).drew.alloc (Nat.le_refl _) _
 clear hcur hs hcp
 go_enter Tryz.func87, Tryz.ntmps87
 go_wp2_with (at_builtin; refine Lib.wpList_append_run _ rfl _ _ _ _ rfl _ _ rfl rfl _ _ happ ?_)
 go_ret
 exact ⟨_, rfl, HB.out, HR.out⟩
theorem flq_take {Ls : List (List Ln)} {k : Nat} (h : k < Ls.length) : (Ls.take (k + 1)).flatten = (Ls.take k).flatten ++ Ls[k] := by
 rw [List.take_succ_eq_append_getElem h, List.flatten_append]; simp
theorem flq_len {Ls : List (List Ln)} (k : Nat) : (Ls.take k).flatten.length ≤ Ls.flatten.length := by
 have h := congrArg List.flatten (List.take_append_drop k Ls)
 rw [List.flatten_append] at h
 rw [← h, List.length_append]; omega
def ListsAt (w : World) (c : Nat) (Ls : List (List Ln)) : Prop := ∀ k (h : k < Ls.length), ∃ ao ca, w.cell? ⟨c, k, none⟩ = some (.slice ao Ls[k].length ca) ∧ Ls[k].length ≤ ca ∧ (ao = none → ca = 0) ∧ LinesAt w.heap.size w ao Ls[k]
theorem concat_any (c : Nat) (Ls : List (List Ln)) (w : World) (hc : c < w.heap.size) (hn : Ls.length ≤ 100) (h0 : 0 < Ls.flatten.length) (ht : Ls.flatten.length ≤ 8388608) (hi : ListsAt w c Ls) :
  Calls Tryz.prog 54 #[.slice (some ⟨c, 0, none⟩) Ls.length Ls.length] w fun e w' => ∃ v ps, e = .returned v ∧ Below w.heap.size w w' ∧ RowL w.heap.size w' v ps ∧ ps.map (·.1) = Ls.flatten := by
 have HI : Hid (ListsAt w c Ls) := hi
 have HT : Hid (Ls.flatten.length ≤ 8388608) := ht
 have H0 : Hid (0 < Ls.flatten.length) := h0
 clear hi ht h0
 go_enter Tryz.func54, Tryz.ntmps54
 go_wp2_with fail
 go_loop [3, 11] (fun sv iv => ∃ j n : Nat, j ≤ Ls.length ∧ iv = .int .i64 j ∧ sv = .int .i64 n ∧ Hid (n = (Ls.take j).flatten.length)) (fun _ iv => Ls.length - (intOf iv).toNat)
 case atStart => exact ⟨0, 0, Nat.zero_le _, rfl, rfl, rfl⟩
 case round =>
  obtain ⟨j, n, hj, rfl, rfl, HN⟩ := hrel
  by_cases hlt : j < Ls.length
  ·obtain ⟨ao, ca, q0, _, _, _⟩ := HI.out j hlt
   have hb1 := flq_len (Ls := Ls) (j + 1)
   have hb2 := HT.out
   have HF : Hid ((Ls.take (j + 1)).flatten.length = n + Ls[j].length) := by
    show _ = _
    rw [flq_take hlt, List.length_append, ← HN.out]
   rw [HF.out] at hb1
   have hs : n + Ls[j].length ≤ 8388608 := Nat.le_trans hb1 hb2
   clear hb1 hb2
   have q1 : w.cell? ⟨c, 0 + j, none⟩ = some (.slice ao Ls[j].length ca) := by rw [Nat.zero_add]; exact q0
   have hng : ¬ ((n : Int) + (Ls[j].length : Int) < 0) := by omega
   go_wp2
   go_round
   case rel => exact ⟨j + 1, n + Ls[j].length, by omega, by go_num, by go_num, HF.out.symm⟩
   case measure => simp [intOf]; omega
  ·have e : j = Ls.length := by omega
   subst e
   rw [List.take_length] at HN
   have hn0 : 0 < n := by rw [HN.out]; exact H0.out
   have hn1 : n ≤ 8388608 := by rw [HN.out]; exact HT.out
   go_wp2_with (go_at_call 87; refine (grow_nil n hn0 hn1 _).mono ?_; rintro e w1 ⟨v1, rfl, hb1, hr1⟩; have HB1 : Hid (Below w.heap.size w w1) := hb1; have HR1 : Hid (RowL w.heap.size w1 v1 []) := hr1; clear hb1 hr1)
   go_loopw [6, 27] (fun v iv wr => ∃ (j : Nat) (ps : List (Ln × Value)), j ≤ Ls.length ∧ iv = .int .i64 j ∧ Hid (ps.map (·.1) = (Ls.take j).flatten) ∧ Hid (RowL w.heap.size wr v ps) ∧ Hid (Below w.heap.size w wr)) (fun _ iv _ => Ls.length - (intOf iv).toNat)
   case atStart => exact ⟨0, [], Nat.zero_le _, rfl, rfl, HR1, HB1⟩
   case round =>
    clear HR1 HB1
    obtain ⟨j, ps, hj, rfl, HM, HR, HB⟩ := hrel
    by_cases hlt : j < Ls.length
    ·obtain ⟨ao, ca, q0, hca, hna, hli⟩ := HI.out j hlt
     have q1 := (HB.out.cell (p := ⟨c, j, none⟩) hc).trans q0
     have hb1 := flq_len (Ls := Ls) (j + 1)
     have hb2 := HT.out
     have HF : Hid ((Ls.take (j + 1)).flatten = (Ls.take j).flatten ++ Ls[j]) := flq_take hlt
     have hpl : ps.length = (Ls.take j).flatten.length := by rw [← HM.out, List.length_map]
     rw [HF.out, List.length_append, ← hpl] at hb1
     have hs : ps.length + Ls[j].length ≤ 8388608 := Nat.le_trans hb1 hb2
     have HL : Hid (LinesAt w.heap.size wr ao Ls[j]) := hli.below HB.out
     have HNN : Hid (ao = none → ca = 0) := hna
     have hsz := HB.out.size
     clear hb1 hb2 q0 hli hna hpl
     go_wp2_with (at_builtin; refine app_lines rfl _ _ rfl w.heap.size w.heap.size _ _ rfl HR.out ao ca Ls[j] rfl HNN.out HL.out (Nat.le_refl _) hs hsz ?_; intro v2 w2 qs hm hr2 hg2 ho2; have HB2 : Hid (Below w.heap.size w w2) := app_below HB.out HR.out.row hg2 hsz; have HR2 : Hid (RowL w.heap.size w2 v2 (ps ++ qs)) := hr2; have HM2 : Hid ((ps ++ qs).map (·.1) = (Ls.take (j + 1)).flatten) := (by rw [Hid, HF.out, List.map_append, HM.out, hm]); clear hm hr2 hg2 ho2)
     go_roundw
     case rel => exact ⟨j + 1, ps ++ qs, by omega, by go_num, HM2, HR2, HB2⟩
     case measure => simp [intOf]; omega
    ·have e : j = Ls.length := by omega
     subst e
     rw [List.take_length] at HM
     go_wp2
     go_ret
     exact ⟨_, ps, rfl, HB.out, HR.out, HM.out⟩
end
end Go.Proofs.YtlbjjbolbopfmaaGreatDoor
