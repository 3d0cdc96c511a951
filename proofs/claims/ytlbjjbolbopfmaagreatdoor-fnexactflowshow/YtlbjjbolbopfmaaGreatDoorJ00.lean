import Derived.OrdersHeld
import Derived.WalkKit
import Derived.ProofKit
import Derived.RowKit
import Derived.Deep.Draws
import Derived.Lib.AtoiAll
import Derived.Lib.ItoaMem
import Derived.Test.YtlbjjbolbopfmaaGreatDoorChecked
import Derived.WalkSpells
import Derived.WalkLawsBesides
import Derived.Laws.RangeAny
import Derived.BigQuiet
import Derived.Deep.QuietTactic
namespace Go.Proofs.YtlbjjbolbopfmaaGreatDoor
set_option maxHeartbeats 1000000
set_option linter.unusedVariables false
section
open Go.RowKit
section
variable {P : Program} {ops : Array Oper} {Q : Exit → Act → World → Prop} {md : Region.Mode} {S : World → Prop}
theorem tkL (i : Nat) {oi : Oper} {v : Value} {fuel : Nat} {listed : Array Bool} {a : Act} {w : World}
  (h : wpAnyH P md ops Q S fuel (listed.setIfInBounds i true) (a.put oi.dst v) w)
  (hi : ops[i]? = some oi := by rfl)
  (hs : Region.noSelect ops = true := by kernel_rfl) (hf : Region.free md ops listed i = true := by kernel_rfl) (hr : (Region.ready md ops listed).contains i = true := by kernel_rfl)
  (hQ : ∀ c a w, Q (.panic c) (a.put oi.dst v) w → Q (.panic c) a w := by exact (fun _ _ _ h => h))
  (hw : Region.wanted oi (yielded ops a.tmps) = true := by rfl) (hv : ∀ w, S w → (execOp a.eval oi).run P w = .ok (.value v) w := by (intro w hSw; (try dsimp only at hSw); go_simp; try with_reducible rfl)) (hS : S w := by assumption) : wpAnyH P md ops Q S (fuel + 1) listed a w :=
 wpAnyH_take hi hs hf hr hQ (.inl ⟨hw, hv⟩) hS h
theorem tkR (i : Nat) {oi : Oper} {fuel : Nat} {listed : Array Bool} {a : Act} {w : World}
  (h : wpAnyH P md ops Q S fuel (listed.setIfInBounds i true) (a.put oi.dst undef) w)
  (hi : ops[i]? = some oi := by rfl)
  (hs : Region.noSelect ops = true := by kernel_rfl) (hf : Region.free md ops listed i = true := by kernel_rfl) (hr : (Region.ready md ops listed).contains i = true := by kernel_rfl)
  (hQ : ∀ c a w, Q (.panic c) (a.put oi.dst undef) w → Q (.panic c) a w := by exact (fun _ _ _ h => h))
  (hw : Region.wanted oi (yielded ops a.tmps) = false := by kernel_rfl) (hS : S w := by assumption) : wpAnyH P md ops Q S (fuel + 1) listed a w :=
 wpAnyH_take hi hs hf hr hQ (.inr ⟨hw, rfl⟩) hS h
end
theorem nA : type_of% @List.getElem_toArray := @List.getElem_toArray
theorem nB : type_of% @List.getElem_cons_succ := @List.getElem_cons_succ
theorem nC : type_of% @List.getElem_cons_zero := @List.getElem_cons_zero
theorem nD : type_of% @List.setIfInBounds_toArray := @List.setIfInBounds_toArray
theorem nE : type_of% @List.set_cons_zero := @List.set_cons_zero
theorem nF : type_of% @List.set_cons_succ := @List.set_cons_succ
end
section
def okC (i : Nat) (b : UInt8) : Bool := (decide (97 ≤ b.toNat) && decide (b.toNat ≤ 122)) || (decide (0 < i) && (decide (48 ≤ b.toNat) && decide (b.toNat ≤ 57)))
def z_bv (i : Nat) : List UInt8 → Bool
 | [] => true
 | b :: r => okC i b && z_bv (i + 1) r
def z_iv (l : List UInt8) : Bool := z_bv 0 l && (decide (1 ≤ l.length) && decide (l.length ≤ 8))
def z_ac (s : ByteArray) : Bool := z_iv s.data.toList
theorem z_dG (i : Nat) (a b : List UInt8) : z_bv i (a ++ b) = (z_bv i a && z_bv (i + a.length) b) := by
 induction a generalizing i with
 | nil => simp [z_bv]
 | cons x a ih => simp [z_bv, ih, Bool.and_assoc, Nat.add_assoc, Nat.add_comm 1]
theorem z_fH (l : List UInt8) (k : Nat) (h : k < l.length) : z_bv 0 (l.take (k + 1)) = (z_bv 0 (l.take k) && okC k l[k]) := by
 rw [List.take_succ_eq_append_getElem h, z_dG]
 simp [z_bv, Nat.min_eq_left (Nat.le_of_lt h)]
theorem z_fe (l : List UInt8) (k : Nat) (h : k < l.length) (hb : okC k l[k] = false) : z_iv l = false := by
 have e : l = l.take k ++ l[k] :: l.drop (k + 1) := by simp
 have : z_bv 0 l = false := by
  rw [e, z_dG]
  simp [z_bv, Nat.min_eq_left (Nat.le_of_lt h), hb]
 simp [z_iv, this]
theorem z_hM (l : List UInt8) (h : z_bv 0 l = true) : z_iv l = (decide (1 ≤ l.length) && decide (l.length ≤ 8)) := by simp [z_iv, h]
theorem z_lv {k : Nat} {b : UInt8} (h1 : 97 ≤ b.toNat) (h2 : b.toNat ≤ 122) : okC k b = true := by simp [okC, h1, h2]
theorem z_lc {k : Nat} {b : UInt8} (h0 : 0 < k) (h1 : 48 ≤ b.toNat) (h2 : b.toNat ≤ 57) : okC k b = true := by simp [okC, h0, h1, h2]
theorem z_lm {k : Nat} {b : UInt8} (h : ¬ (97 ≤ b.toNat ∧ b.toNat ≤ 122)) (h' : ¬ (0 < k ∧ 48 ≤ b.toNat ∧ b.toNat ≤ 57)) : okC k b = false := by
 simp only [okC, Bool.or_eq_false_iff, Bool.and_eq_false_iff, decide_eq_false_iff_not]
 omega
end
section
open Go.RowKit
theorem z_bn (s : ByteArray) : s.toList = s.data.toList := ByteArray.toList_eq s
theorem z_lH {a b : ByteArray} (h : a.data.toList = b.data.toList) : a = b := by
 cases a; cases b
 simp only [ByteArray.mk.injEq]
 exact Array.ext' h
theorem z_aI (a b : ByteArray) : (a.toList == b.toList) = decide (a = b) := by
 rw [z_bn, z_bn]
 by_cases h : a = b
 ·simp [h]
 ·have : a.data.toList ≠ b.data.toList := fun e => h (z_lH e)
  rw [decide_eq_false h]
  exact beq_eq_false_iff_ne.2 this
theorem z_lQ (a : ByteArray) (l : List UInt8) : (a.toList == l) = decide (a = ⟨l.toArray⟩) := by
 have : (⟨l.toArray⟩ : ByteArray).toList = l := by rw [z_bn]
 rw [← z_aI, this]
theorem z_av (s : ByteArray) : s.toList.isEmpty = decide (s.size = 0) := by
 rw [z_bn]
 cases h : s.data.toList with
 | nil =>
  have : s.size = 0 := by simpa using congrArg List.length h
  simp [this]
 | cons a r =>
  have : s.size = r.length + 1 := by simpa using congrArg List.length h
  simp [this]
theorem z_bD {s : ByteArray} (h : s.size = 0) : s = ByteArray.empty := by
 apply z_lH
 have : s.data.toList.length = 0 := by simpa using h
 rw [List.length_eq_zero_iff] at this
 rw [this]; rfl
theorem z_aa {B : Nat} {a w : World} (h : Below B a w) (n : Nat) : Below B a (w.drewN n) := h.trans ⟨rfl, rfl, rfl, Nat.le_refl _, fun _ _ => rfl⟩
theorem z_ch {W w1 : World} (hb : Below W.heap.size W w1) : (∀ b o, b < W.heap.size → w1.cell? ⟨b, o, none⟩ = W.cell? ⟨b, o, none⟩) ∧ (∀ b o, b < W.heap.size → w1.frozen? ⟨b, o, none⟩ = W.frozen? ⟨b, o, none⟩) :=
 ⟨fun b o h => hb.cell (p := ⟨b, o, none⟩) h, fun b o h => hb.frozen (p := ⟨b, o, none⟩) h⟩
def StrsAt (A B : Nat) (w : World) (ao : Option Addr) (ss : List ByteArray) : Prop :=
 ∀ k, k < ss.length → ∃ b off, ao = some ⟨b, off, none⟩ ∧ (A ≤ b ∧ b < B) ∧ w.cell? ⟨b, off + k, none⟩ = some (.string (ss.getD k ByteArray.empty))
section
variable {A A' B B' : Nat} {w w' : World} {ao : Option Addr} {ss : List ByteArray}
theorem StrsAt.below (h : StrsAt A B w ao ss) (hb : Below B w w') : StrsAt A B w' ao ss := by
 intro k hk
 obtain ⟨b, off, e, hB, hc⟩ := h k hk
 exact ⟨b, off, e, hB, (hb.cell (p := ⟨b, off + k, none⟩) hB.2).trans hc⟩
theorem StrsAt.mono (h : StrsAt A B w ao ss) (ha : A' ≤ A) (hb : B ≤ B') : StrsAt A' B' w ao ss := by
 intro k hk
 obtain ⟨b, off, e, hB, hc⟩ := h k hk
 exact ⟨b, off, e, ⟨Nat.le_trans ha hB.1, Nat.lt_of_lt_of_le hB.2 hb⟩, hc⟩
theorem StrsAt.later (h : StrsAt A w.heap.size w ao ss) (hb : Below w.heap.size w w') : StrsAt A w'.heap.size w' ao ss :=
 (h.below hb).mono (Nat.le_refl _) hb.size
theorem StrsAt.setCell (h : StrsAt A B w ao ss) {p : Addr} (hp : p.block < A ∨ B ≤ p.block) (u : Value) : StrsAt A B (w.setCell p u) ao ss := by
 intro k hk
 obtain ⟨b, off, e, hB, hc⟩ := h k hk
 refine ⟨b, off, e, hB, ?_⟩
 rw [World.cell?_of_block (w := w) (Below.heap_setCell w p u b (by omega))]
 exact hc
theorem StrsAt.nil (A B : Nat) (w : World) (ao : Option Addr) : StrsAt A B w ao [] := fun k hk => by simp at hk
theorem StrsAt.at (h : StrsAt A B w ao ss) (k : Nat) (hk : k < ss.length) : ∃ b off, ao = some ⟨b, off, none⟩ ∧ (A ≤ b ∧ b < B) ∧ w.cell? ⟨b, off + k, none⟩ = some (.string ss[k]) := by
 obtain ⟨b, off, e, hB, hc⟩ := h k hk
 rw [show ss.getD k ByteArray.empty = ss[k] by simp [List.getD, hk]] at hc
 exact ⟨b, off, e, hB, hc⟩
end
def z_bd (A B : Nat) (w : World) (v : Value) (ss : List ByteArray) : Prop := ∃ ao cap, v = .slice ao ss.length cap ∧ ss.length ≤ cap ∧ StrsAt A B w ao ss
def hasB (ss : List ByteArray) (s : ByteArray) : Bool := ss.any fun x => decide (x = s)
theorem z_ci (ss : List ByteArray) (s : ByteArray) : hasB ss s = true ↔ s ∈ ss := by
 simp only [hasB, List.any_eq_true, decide_eq_true_eq]
 exact ⟨fun ⟨x, h, e⟩ => e ▸ h, fun h => ⟨s, h, rfl⟩⟩
theorem z_lh (ss : List ByteArray) (k : Nat) (h : k < ss.length) (s : ByteArray) : hasB (ss.take (k + 1)) s = (hasB (ss.take k) s || decide (ss[k] = s)) := by
 rw [List.take_succ_eq_append_getElem h, hasB, List.any_append]
 simp only [List.any_cons, List.any_nil, Bool.or_false, hasB]
theorem z_nn {ss : List ByteArray} {k : Nat} (h : k < ss.length) {s : ByteArray} (e : ss[k] = s) : hasB ss s = true := by
 rw [z_ci, ← e]; exact List.getElem_mem h
end
section
open Go
def numB (s : ByteArray) : Bool :=
 match Lib.atoiAll s.data.toList with
 | .ok v => (decide (-9999 ≤ v) && decide (v ≤ 9999)) && decide (Lib.itoa v = s.data.toList)
 | _ => false
def numV (s : ByteArray) : Int :=
 match Lib.atoiAll s.data.toList with
 | .ok v => v
 | _ => 0
def dgt (d : Nat) : UInt8 := UInt8.ofNat (48 + d)
theorem z_ag {d : Nat} (h : d < 10) : (dgt d).toNat = 48 + d := by unfold dgt; simp; omega
theorem z_n1 {b : UInt8} (h1 : 48 ≤ b.toNat) (h2 : b.toNat ≤ 57) : b = dgt (b.toNat - 48) := by
 apply UInt8.toNat_inj.1
 rw [z_ag (by omega)]; omega
theorem dec1 {u : Nat} (h : u < 10) : Lib.decDigits u = [dgt u] := by rw [Lib.decDigits, dif_pos h]; rfl
theorem dec2 {a b : Nat} (ha : 1 ≤ a) (ha' : a < 10) (hb : b < 10) : Lib.decDigits (a * 10 + b) = [dgt a, dgt b] := by
 rw [Lib.decDigits, dif_neg (by omega), show (a * 10 + b) / 10 = a by omega, dec1 ha', show (a * 10 + b) % 10 = b by omega]; rfl
theorem dec3 {a b c : Nat} (ha : 1 ≤ a) (ha' : a < 10) (hb : b < 10) (hc : c < 10) : Lib.decDigits (a * 100 + b * 10 + c) = [dgt a, dgt b, dgt c] := by
 rw [Lib.decDigits, dif_neg (by omega), show (a * 100 + b * 10 + c) / 10 = a * 10 + b by omega, dec2 ha ha' hb, show (a * 100 + b * 10 + c) % 10 = c by omega]; rfl
theorem dec4 {a b c d : Nat} (ha : 1 ≤ a) (ha' : a < 10) (hb : b < 10) (hc : c < 10) (hd : d < 10) : Lib.decDigits (a * 1000 + b * 100 + c * 10 + d) = [dgt a, dgt b, dgt c, dgt d] := by
 rw [Lib.decDigits, dif_neg (by omega), show (a * 1000 + b * 100 + c * 10 + d) / 10 = a * 100 + b * 10 + c by omega, dec3 ha ha' hb hc, show (a * 1000 + b * 100 + c * 10 + d) % 10 = d by omega]; rfl
def figs (d : List UInt8) : Bool := ((decide (1 ≤ d.length) && decide (d.length ≤ 4)) && !(decide (1 < d.length) && decide (d.head? = some 48))) && d.all fun b => decide (48 ≤ b.toNat) && decide (b.toNat ≤ 57)
def val (d : List UInt8) : Nat := d.foldl (fun n b => n * 10 + (b.toNat - 48)) 0
theorem z_cI (d : List UInt8) (h : figs d = true) : (∃ a, a < 10 ∧ d = [dgt a]) ∨ (∃ a b, 1 ≤ a ∧ a < 10 ∧ b < 10 ∧ d = [dgt a, dgt b]) ∨ (∃ a b c, 1 ≤ a ∧ a < 10 ∧ b < 10 ∧ c < 10 ∧ d = [dgt a, dgt b, dgt c]) ∨ (∃ a b c e, 1 ≤ a ∧ a < 10 ∧ b < 10 ∧ c < 10 ∧ e < 10 ∧ d = [dgt a, dgt b, dgt c, dgt e]) := by
 simp only [figs, Bool.and_eq_true, decide_eq_true_eq, List.all_eq_true, Bool.not_eq_true', Bool.and_eq_false_iff, decide_eq_false_iff_not] at h
 obtain ⟨⟨⟨h1, h2⟩, h3⟩, h4⟩ := h
 have hd : ∀ b ∈ d, ∃ x, x < 10 ∧ b = dgt x := fun b hb => ⟨b.toNat - 48, by have := h4 b hb; omega, z_n1 (h4 b hb).1 (h4 b hb).2⟩
 have h0 : ∀ x, x < 10 → dgt x ≠ 48 → 1 ≤ x := by
  intro x hx hne
  rcases Nat.eq_zero_or_pos x with e | e
  ·subst e; exact absurd rfl hne
  ·exact e
 match d, h1, h2, h3, hd with
 | [a], _, _, _, hd =>
  obtain ⟨x, hx, rfl⟩ := hd a (by simp)
  exact .inl ⟨x, hx, rfl⟩
 | [a, b], _, _, h3, hd =>
  obtain ⟨x, hx, rfl⟩ := hd a (by simp)
  obtain ⟨y, hy, rfl⟩ := hd b (by simp)
  exact .inr (.inl ⟨x, y, h0 x hx (by simpa using h3), hx, hy, rfl⟩)
 | [a, b, c], _, _, h3, hd =>
  obtain ⟨x, hx, rfl⟩ := hd a (by simp)
  obtain ⟨y, hy, rfl⟩ := hd b (by simp)
  obtain ⟨z, hz, rfl⟩ := hd c (by simp)
  exact .inr (.inr (.inl ⟨x, y, z, h0 x hx (by simpa using h3), hx, hy, hz, rfl⟩))
 | [a, b, c, e], _, _, h3, hd =>
  obtain ⟨x, hx, rfl⟩ := hd a (by simp)
  obtain ⟨y, hy, rfl⟩ := hd b (by simp)
  obtain ⟨z, hz, rfl⟩ := hd c (by simp)
  obtain ⟨t, ht, rfl⟩ := hd e (by simp)
  exact .inr (.inr (.inr ⟨x, y, z, t, h0 x hx (by simpa using h3), hx, hy, hz, ht, rfl⟩))
 | [], h1, _, _, _ => simp at h1
 | _ :: _ :: _ :: _ :: _ :: _, _, h2, _, _ => simp at h2
theorem z_mw (d : List UInt8) (h : figs d = true) : Lib.decDigits (val d) = d ∧ val d ≤ 9999 ∧ (val d = 0 → d = [48]) ∧ (1 < d.length → 1 ≤ val d) := by
 rcases z_cI d h with ⟨a, ha, rfl⟩ | ⟨a, b, h1, ha, hb, rfl⟩ | ⟨a, b, c, h1, ha, hb, hc, rfl⟩ | ⟨a, b, c, e, h1, ha, hb, hc, he, rfl⟩
 ·have e : val [dgt a] = a := by simp [val, z_ag ha]
  rw [e]; exact ⟨dec1 ha, by omega, fun h => by subst h; rfl, fun h => by simp at h⟩
 ·have e : val [dgt a, dgt b] = a * 10 + b := by simp [val, z_ag ha, z_ag hb]
  rw [e]; exact ⟨dec2 h1 ha hb, by omega, fun h => by omega, fun _ => by omega⟩
 ·have e : val [dgt a, dgt b, dgt c] = a * 100 + b * 10 + c := by simp [val, z_ag ha, z_ag hb, z_ag hc]; omega
  rw [e]; exact ⟨dec3 h1 ha hb hc, by omega, fun h => by omega, fun _ => by omega⟩
 ·have e : val [dgt a, dgt b, dgt c, dgt e] = a * 1000 + b * 100 + c * 10 + e := by simp [val, z_ag ha, z_ag hb, z_ag hc, z_ag he]; omega
  rw [e]; exact ⟨dec4 h1 ha hb hc he, by omega, fun h => by omega, fun _ => by omega⟩
theorem z_eD (u : Nat) (h : u ≤ 9999) : figs (Lib.decDigits u) = true ∧ val (Lib.decDigits u) = u := by
 have hall : ∀ x, x < 10 → (decide (48 ≤ (dgt x).toNat) && decide ((dgt x).toNat ≤ 57)) = true := fun x hx => by simp only [z_ag hx, Bool.and_eq_true, decide_eq_true_eq]; omega
 have hne : ∀ x, 1 ≤ x → x < 10 → decide (dgt x = 48) = false := fun x h1 hx => by
  simp only [decide_eq_false_iff_not]; intro e
  have := congrArg UInt8.toNat e
  rw [z_ag hx] at this; simp at this; omega
 by_cases h1 : u < 10
 ·rw [dec1 h1]; exact ⟨by simp [figs, hall u h1], by simp [val, z_ag h1]⟩
 by_cases h2 : u < 100
 ·have e : u = (u / 10) * 10 + u % 10 := by omega
  rw [e, dec2 (a := u / 10) (b := u % 10) (by omega) (by omega) (by omega)]
  exact ⟨by simp [figs, hall (u / 10) (by omega), hall (u % 10) (by omega)]; simpa using hne (u / 10) (by omega) (by omega), by simp [val, z_ag (show u / 10 < 10 by omega), z_ag (show u % 10 < 10 by omega)]⟩
 by_cases h3 : u < 1000
 ·have e : u = (u / 100) * 100 + (u / 10 % 10) * 10 + u % 10 := by omega
  rw [e, dec3 (a := u / 100) (b := u / 10 % 10) (c := u % 10) (by omega) (by omega) (by omega) (by omega)]
  exact ⟨by simp [figs, hall (u / 100) (by omega), hall (u / 10 % 10) (by omega), hall (u % 10) (by omega)]; simpa using hne (u / 100) (by omega) (by omega), by simp [val, z_ag (show u / 100 < 10 by omega), z_ag (show u / 10 % 10 < 10 by omega), z_ag (show u % 10 < 10 by omega)]; omega⟩
 ·have e : u = (u / 1000) * 1000 + (u / 100 % 10) * 100 + (u / 10 % 10) * 10 + u % 10 := by omega
  rw [e, dec4 (a := u / 1000) (b := u / 100 % 10) (c := u / 10 % 10) (d := u % 10) (by omega) (by omega) (by omega) (by omega) (by omega)]
  exact ⟨by simp [figs, hall (u / 1000) (by omega), hall (u / 100 % 10) (by omega), hall (u / 10 % 10) (by omega), hall (u % 10) (by omega)]; simpa using hne (u / 1000) (by omega) (by omega), by simp [val, z_ag (show u / 1000 < 10 by omega), z_ag (show u / 100 % 10 < 10 by omega), z_ag (show u / 10 % 10 < 10 by omega), z_ag (show u % 10 < 10 by omega)]; omega⟩
def negL (l : List UInt8) : Bool := decide (1 < l.length) && decide (l.head? = some 45)
def restL (l : List UInt8) : List UInt8 := if negL l = true then l.tail else l
def numL (l : List UInt8) : Bool := figs (restL l) && !(negL l && decide (restL l = [48]))
def valL (l : List UInt8) : Int := if negL l = true then -(val (restL l) : Int) else val (restL l)
theorem z_i6 (l : List UInt8) (h : numL l = true) : ∃ v : Int, -9999 ≤ v ∧ v ≤ 9999 ∧ l = Lib.itoa v ∧ valL l = v := by
  simp only [numL, Bool.and_eq_true, Bool.not_eq_true', Bool.and_eq_false_iff, decide_eq_false_iff_not] at h
  obtain ⟨hf, hz⟩ := h
  obtain ⟨h1, h2, h3, h4⟩ := z_mw _ hf
  by_cases hn : negL l = true
  · have hz' : restL l ≠ [48] := by rcases hz with h | h; · rw [hn] at h; cases h
                                    · exact h
    have hv : 1 ≤ val (restL l) := by
      rcases Nat.eq_zero_or_pos (val (restL l)) with e | e
      · exact absurd (h3 e) hz'
      · exact e
    refine ⟨-(val (restL l) : Int), by omega, by omega, ?_, by simp [valL, hn]⟩
    rw [Lib.itoa_neg _ hv, h1]
    simp only [negL, Bool.and_eq_true, decide_eq_true_eq] at hn
    have : restL l = l.tail := by simp [restL, negL, hn]
    rw [this]
    cases l with
    | nil => simp at hn
    | cons a r => simp at hn ⊢; exact hn.2
  · refine ⟨(val (restL l) : Int), by omega, by omega, ?_, by simp [valL, hn]⟩
    rw [Lib.itoa_nonneg, h1]
    simp [restL, hn]
theorem z_lx (v : Int) (h1 : -9999 ≤ v) (h2 : v ≤ 9999) : numL (Lib.itoa v) = true := by
 by_cases hv : v < 0
 ·obtain ⟨u, hu⟩ : ∃ u : Nat, v = -(u : Int) := ⟨v.natAbs, by omega⟩
  subst hu
  rw [Lib.itoa_neg u (by omega)]
  obtain ⟨hf, hval⟩ := z_eD u (by omega)
  have hlen : 1 ≤ (Lib.decDigits u).length := by
   rcases z_cI _ hf with ⟨a, _, e⟩ | ⟨a, b, _, _, _, e⟩ | ⟨a, b, c, _, _, _, _, e⟩ | ⟨a, b, c, d, _, _, _, _, _, e⟩ <;> rw [e] <;> simp
  have hn : negL (45 :: Lib.decDigits u) = true := by simp [negL]; omega
  have hr : restL (45 :: Lib.decDigits u) = Lib.decDigits u := by simp [restL, hn]
  simp only [numL, hr, hf, hn, Bool.true_and, Bool.not_eq_true', decide_eq_false_iff_not]
  intro e
  rw [e] at hval
  have : val [48] = 0 := rfl
  omega
 ·obtain ⟨u, hu⟩ : ∃ u : Nat, v = (u : Int) := ⟨v.natAbs, by omega⟩
  subst hu
  rw [Lib.itoa_nonneg]
  obtain ⟨hf, hval⟩ := z_eD u (by omega)
  have hn : negL (Lib.decDigits u) = false := by
   have hd : ∀ x, x < 10 → dgt x ≠ 45 := fun x hx e => by
    have := congrArg UInt8.toNat e
    rw [z_ag hx] at this; simp at this; omega
   rcases z_cI _ hf with ⟨a, ha, e⟩ | ⟨a, b, _, ha, _, e⟩ | ⟨a, b, c, _, ha, _, _, e⟩ | ⟨a, b, c, d, _, ha, _, _, _, e⟩ <;> rw [e] <;> simp [negL, hd a ha]
  have hr : restL (Lib.decDigits u) = Lib.decDigits u := by simp [restL, hn]
  simp [numL, hr, hf, hn]
theorem z_bF (acc d : Nat) (r : List UInt8) (h : d < 10) (hb : acc < 100000) : Lib.parseUint10 acc (dgt d :: r) = Lib.parseUint10 (acc * 10 + d) r := by
 rw [Lib.parseUint10, z_ag h, if_pos (by omega), if_neg (by omega), if_neg (by omega)]
 congr 1; omega
theorem z_d1 (d : List UInt8) (h : figs d = true) : Lib.parseMag d = .ok (val d) := by
 rcases z_cI d h with ⟨a, ha, rfl⟩ | ⟨a, b, h1, ha, hb, rfl⟩ | ⟨a, b, c, h1, ha, hb, hc, rfl⟩ | ⟨a, b, c, e, h1, ha, hb, hc, he, rfl⟩
 ·rw [Lib.parseMag, if_neg (by simp), z_bF _ _ _ ha (by omega)]; simp [Lib.parseUint10, val, z_ag ha]
 ·rw [Lib.parseMag, if_neg (by simp), z_bF _ _ _ ha (by omega), z_bF _ _ _ hb (by omega)]; simp [Lib.parseUint10, val, z_ag ha, z_ag hb]
 ·rw [Lib.parseMag, if_neg (by simp), z_bF _ _ _ ha (by omega), z_bF _ _ _ hb (by omega), z_bF _ _ _ hc (by omega)]; simp [Lib.parseUint10, val, z_ag ha, z_ag hb, z_ag hc]
 ·rw [Lib.parseMag, if_neg (by simp), z_bF _ _ _ ha (by omega), z_bF _ _ _ hb (by omega), z_bF _ _ _ hc (by omega), z_bF _ _ _ he (by omega)]; simp [Lib.parseUint10, val, z_ag ha, z_ag hb, z_ag hc, z_ag he]
theorem z_fj (v : Int) (h1 : -9999 ≤ v) (h2 : v ≤ 9999) : Lib.atoiAll (Lib.itoa v) = .ok v := by
 by_cases hv : v < 0
 ·obtain ⟨u, hu⟩ : ∃ u : Nat, v = -(u : Int) := ⟨v.natAbs, by omega⟩
  subst hu
  rw [Lib.itoa_neg u (by omega)]
  obtain ⟨hf, hval⟩ := z_eD u (by omega)
  simp only [Lib.atoiAll]
  rw [if_pos (by right; rfl), z_d1 _ hf, hval]
  simp; omega
 ·obtain ⟨u, hu⟩ : ∃ u : Nat, v = (u : Int) := ⟨v.natAbs, by omega⟩
  subst hu
  rw [Lib.itoa_nonneg]
  obtain ⟨hf, hval⟩ := z_eD u (by omega)
  have hp := z_d1 _ hf
  rw [hval] at hp
  have hh : ∃ a r, Lib.decDigits u = dgt a :: r ∧ a < 10 := by
   rcases z_cI _ hf with ⟨a, ha, e⟩ | ⟨a, b, _, ha, _, e⟩ | ⟨a, b, c, _, ha, _, _, e⟩ | ⟨a, b, c, d, _, ha, _, _, _, e⟩ <;> exact ⟨a, _, e, ha⟩
  obtain ⟨a, r, e, ha⟩ := hh
  rw [e] at hp ⊢
  simp only [Lib.atoiAll]
  rw [if_neg (by rw [z_ag ha]; omega), hp]
  have hne : ¬ (dgt a).toNat = 45 := by rw [z_ag ha]; omega
  simp [hne]; omega
theorem z_mn (s : ByteArray) : numB s = true ↔ ∃ v : Int, -9999 ≤ v ∧ v ≤ 9999 ∧ s.data.toList = Lib.itoa v ∧ numV s = v := by
 constructor
 ·intro h
  unfold numB at h
  split at h
  ·rename_i v hv
   simp only [Bool.and_eq_true, decide_eq_true_eq] at h
   exact ⟨v, h.1.1, h.1.2, h.2.symm, by simp [numV, hv]⟩
  ·cases h
 ·rintro ⟨v, h1, h2, h3, _⟩
  unfold numB
  rw [h3, z_fj v h1 h2]
  simp [h1, h2]
theorem z_bQ (s : ByteArray) : numL s.data.toList = numB s := by
 rw [Bool.eq_iff_iff, z_mn]
 constructor
 ·intro h
  obtain ⟨v, h1, h2, h3, _⟩ := z_i6 _ h
  exact ⟨v, h1, h2, h3, by simp [numV, h3, z_fj v h1 h2]⟩
 ·rintro ⟨v, h1, h2, h3, _⟩
  rw [h3]; exact z_lx v h1 h2
theorem z_jn (s : ByteArray) (h : numB s = true) : valL s.data.toList = numV s := by
 rw [← z_bQ] at h
 obtain ⟨v, h1, h2, h3, h4⟩ := z_i6 _ h
 rw [h4]; simp [numV, h3, z_fj v h1 h2]
def digB (b : UInt8) : Bool := decide (48 ≤ b.toNat) && decide (b.toNat ≤ 57)
def digs (l : List UInt8) : Bool := l.all digB
theorem z_dS (l : List UInt8) (k : Nat) (h : k < l.length) : digs (l.take (k + 1)) = (digs (l.take k) && digB l[k]) := by
 rw [List.take_succ_eq_append_getElem h, digs, List.all_append]; simp only [List.all_cons, List.all_nil, Bool.and_true, digs]
theorem z_eJ (l : List UInt8) (k : Nat) (h : k < l.length) : val (l.take (k + 1)) = val (l.take k) * 10 + (l[k].toNat - 48) := by
 rw [List.take_succ_eq_append_getElem h]; simp only [val, List.foldl_append, List.foldl_cons, List.foldl_nil]
theorem z_n9 (l : List UInt8) (k : Nat) (hk : k ≤ l.length) (h : digs (l.take k) = true) : val (l.take k) < 10 ^ k := by
 induction k with
 | zero => simp [val]
 | succ k ih =>
  rw [z_dS l k (by omega), Bool.and_eq_true] at h
  have := ih (by omega) h.1
  rw [z_eJ l k (by omega), Nat.pow_succ]
  have h2 := h.2
  simp only [digB, Bool.and_eq_true, decide_eq_true_eq] at h2
  omega
theorem z_jl (l : List UInt8) (k : Nat) (hk : k ≤ l.length) (h4 : k ≤ 4) (h : digs (l.take k) = true) : val (l.take k) ≤ 9999 := by
 have := z_n9 l k hk h
 have h2 : 10 ^ k ≤ 10 ^ 4 := Nat.pow_le_pow_right (by decide) h4
 omega
theorem z_hA (d : List UInt8) (h : ¬ (1 ≤ d.length ∧ d.length ≤ 4)) : figs d = false := by
 have : (decide (1 ≤ d.length) && decide (d.length ≤ 4)) = false := by simp; omega
 simp [figs, this]
theorem z_ij (d : List UInt8) (h1 : 1 < d.length) (h2 : d.head? = some 48) : figs d = false := by
 simp [figs, h1, h2]
theorem z_eM (d : List UInt8) (k : Nat) (h : k < d.length) (hb : digB d[k] = false) : figs d = false := by
 have : digs d = false := by rw [digs, List.all_eq_false]; exact ⟨d[k], List.getElem_mem h, by simp [hb]⟩
 have e : (d.all fun b => decide (48 ≤ b.toNat) && decide (b.toNat ≤ 57)) = false := this
 simp only [figs, e, Bool.and_false]
theorem z_gU (d : List UInt8) (h1 : 1 ≤ d.length) (h4 : d.length ≤ 4) (hl : ¬ (1 < d.length ∧ d.head? = some 48)) (ha : digs d = true) : figs d = true := by
 have e : (d.all fun b => decide (48 ≤ b.toNat) && decide (b.toNat ≤ 57)) = true := ha
 have e2 : (decide (1 < d.length) && decide (d.head? = some 48)) = false := by
  cases h : (decide (1 < d.length) && decide (d.head? = some 48)) with
  | false => rfl
  | true => simp only [Bool.and_eq_true, decide_eq_true_eq] at h; exact absurd h hl
 simp [figs, e, e2, h1, h4]
end
section
structure Bd where
 to : ByteArray
 name : ByteArray
 args : List ByteArray
 undo : ByteArray
def eS : ByteArray := ByteArray.empty
def z_an (s : ByteArray) : Bool := z_ac s || numB s
def z_aE (k : Int) : Bool := k == 6 || k == 14
def z_am (k : Int) : Bool := z_aE k || k == 8 || k == 9
def z_ae (k : Int) : Bool := k == 7 || k == 10 || k == 11
def z_a1 (k : Int) : Bool := k == 12 || k == 13 || k == 15
def z_cC (s : ByteArray) : Bool := s.toList == [108, 101, 115, 115] || (s.toList == [115, 97, 109, 101] || (s.toList == [109, 111, 114, 101] || s.toList == [111, 116, 104, 101, 114]))
def letN (s : ByteArray) : Int := if (s.toList == [105, 115]) = true then 1 else if (s.toList == [97, 100, 100] || (s.toList == [115, 117, 98] || s.toList == [109, 117, 108])) = true then 2 else 0
def allB (p : ByteArray → Bool) (ss : List ByteArray) : Bool := ss.all p
def z_cB (ss : List ByteArray) (k : Nat) : Bool := (List.range k).any fun i => hasB (ss.take i) (ss.getD i eS)
def pHead (ws : List ByteArray) : Option Bd :=
 match ws with
 | [] => none
 | n :: ar => if ar.length ≤ 3 ∧ allB z_ac (n :: ar) = true ∧ z_cB ar ar.length = false then some ⟨eS, n, ar, eS⟩ else none
def pLet (ws : List ByteArray) : Option Bd :=
 match ws with
 | a :: b :: c :: r => if z_ac a = true ∧ allB z_an (c :: r) = true ∧ ((r.length : Int) + 1 = letN b) then some ⟨a, b, c :: r, eS⟩ else none
 | _ => none
def pDo0 (ws : List ByteArray) (undo : ByteArray) : Option Bd :=
 match ws with
 | a :: b :: r => if z_ac a = true ∧ z_ac b = true ∧ r.length ≤ 3 ∧ allB z_an r = true then some ⟨a, b, r, undo⟩ else none
 | _ => none
def z_aJ (ws : List ByteArray) : Bool := decide (3 < ws.length) && ((ws.getD (ws.length - 2) eS).toList == [117, 110, 100, 111])
def pDo (ws : List ByteArray) : Option Bd :=
 if z_aJ ws = true then
  if z_ac (ws.getD (ws.length - 1) eS) = true then pDo0 (ws.take (ws.length - 2)) (ws.getD (ws.length - 1) eS) else none
 else pDo0 ws eS
def pGet (ws : List ByteArray) : Option Bd :=
 match ws with
 | [a, b] => if z_ac a = true ∧ z_ac b = true then some ⟨a, b, [], eS⟩ else none
 | [a, b, c, d] => if z_ac a = true ∧ z_ac b = true ∧ (c.toList == [102, 111, 114]) = true ∧ z_an d = true then some ⟨a, b, [d], eS⟩ else none
 | _ => none
def pTest (ws : List ByteArray) : Option Bd :=
 match ws with
 | [a, t, b] => if z_an a = true ∧ z_cC t = true ∧ z_an b = true then some ⟨eS, t, [a, b], eS⟩ else none
 | _ => none
def pNothing (ws : List ByteArray) : Option Bd :=
 match ws with
 | [] => some ⟨eS, eS, [], eS⟩
 | _ => none
def pNext (ws : List ByteArray) : Option Bd := if ws.length ≤ 3 ∧ allB z_an ws = true then some ⟨eS, eS, ws, eS⟩ else none
def pOperand (ws : List ByteArray) : Option Bd := if ws.length = 1 then pNext ws else none
def pPatch (ws : List ByteArray) : Option Bd :=
 match ws with
 | [a] => if z_ac a = true then some ⟨eS, a, [], eS⟩ else none
 | _ => none
def z_af (k : Int) (ws : List ByteArray) : Option Bd :=
 if k = 1 then pHead ws else if k = 2 then pLet ws else if k = 3 then pDo ws else if k = 5 then pGet ws
 else if k = 6 ∨ k = 8 then pTest ws else if k = 7 ∨ k = 9 ∨ k = 10 ∨ k = 11 then pNothing ws
 else if k = 4 ∨ k = 12 ∨ k = 13 then pOperand ws else if k = 14 then pPatch ws else if k = 15 then pNext ws else none
theorem z_c4 (p : ByteArray → Bool) (ss : List ByteArray) (k : Nat) (h : k < ss.length) : allB p (ss.take (k + 1)) = (allB p (ss.take k) && p ss[k]) := by
 rw [List.take_succ_eq_append_getElem h, allB, List.all_append]
 simp only [List.all_cons, List.all_nil, Bool.and_true, allB]
theorem z_fh (p : ByteArray → Bool) (ss : List ByteArray) (k : Nat) (h : k < ss.length) (hp : p ss[k] = false) : allB p ss = false := by
 rw [allB, List.all_eq_false]
 exact ⟨ss[k], List.getElem_mem h, by simp [hp]⟩
theorem z_c6 (p : ByteArray → Bool) (s : ByteArray) (r : List ByteArray) : allB p (s :: r) = (p s && allB p r) := rfl
theorem z_gd (ss : List ByteArray) (k : Nat) (h : k < ss.length) : z_cB ss (k + 1) = (z_cB ss k || hasB (ss.take k) ss[k]) := by
 rw [z_cB, List.range_succ, List.any_append]
 simp [z_cB, List.getD, h]
theorem z_eY (ss : List ByteArray) (k n : Nat) (h : k < ss.length) (hn : k < n) (hh : hasB (ss.take k) ss[k] = true) : z_cB ss n = true := by
 rw [z_cB, List.any_eq_true]
 exact ⟨k, by simpa using hn, by simpa [List.getD, h] using hh⟩
end
section
open Go.RowKit
theorem z_gF (w : World) (s : ByteArray) (pos : Nat) (h : pos < s.size) : ∃ r wd : Nat, 1 ≤ wd ∧ r ≤ 2147483647 ∧ ((s[pos]'h).toNat < 128 → r = (s[pos]'h).toNat ∧ wd = 1) ∧ (128 ≤ (s[pos]'h).toNat → 128 ≤ r) ∧ (∀ ty, (Instr.next (.pointer (some ⟨w.heap.size, 0, none⟩)) true ty).run Tryz.prog (w.iter s pos) = .ok (.tuple #[.bool true, .int .i64 pos, .int .i32 (r : Int)]) (w.iter s (pos + wd))) := by
 refine ⟨(Utf8.decode s pos).1, (Utf8.decode s pos).2, ?_, decode_le s pos, ?_, fun h2 => (decode_high s pos h h2).1, fun ty => run_next_any w s pos ty h⟩
 ·by_cases h2 : (s[pos]'h).toNat < 128
  ·rw [decode_ascii s pos h h2]; exact Nat.le_refl _
  ·exact (decode_high s pos h (by omega)).2
 ·intro h2; rw [decode_ascii s pos h h2]; exact ⟨rfl, rfl⟩
theorem z_aP (s : ByteArray) (w : World) (hs : s.size ≤ 9223372036854775807) :
  Calls Tryz.prog 202 #[.string s] w fun e w' => e = .returned (.bool (z_ac s)) ∧ Below w.heap.size w w' := by
 go_enter Tryz.func202, Tryz.ntmps202
 go_wp2
 go_loopw [3] (fun _ wr => ∃ pos : Nat, pos ≤ s.size ∧ wr = w.iter s pos ∧ Hid (z_bv 0 (s.data.toList.take pos) = true)) (fun _ wr => s.size - wr.iterPos w.heap.size)
 case atStart => exact ⟨0, Nat.zero_le _, rfl, rfl⟩
 case round =>
  obtain ⟨pos, hp, rfl, HO⟩ := hrel
  by_cases hlt : pos < s.size
  ·obtain ⟨r, wd, hwd, hr, hlow, hhigh, hnx⟩ := z_gF w s pos hlt
   have HL : Hid (((s[pos]'hlt).toNat < 128 → r = (s[pos]'hlt).toNat ∧ wd = 1) ∧ (128 ≤ (s[pos]'hlt).toNat → 128 ≤ r)) := ⟨hlow, hhigh⟩
   clear hlow hhigh
   have hlen : pos < s.data.toList.length := by simpa using hlt
   have HSn : Hid (z_bv 0 (s.data.toList.take (pos + 1)) = (z_bv 0 (s.data.toList.take pos) && okC pos (s[pos]'hlt))) := z_fH _ pos hlen
   by_cases hgood : (97 ≤ r ∧ r ≤ 122) ∨ (0 < pos ∧ 48 ≤ r ∧ r ≤ 57)
   ·have HN : Hid (wd = 1 ∧ z_bv 0 (s.data.toList.take (pos + 1)) = true) := by
     have hb : (s[pos]'hlt).toNat < 128 := by
      apply Classical.byContradiction
      intro hn
      have := HL.out.2 (by omega)
      omega
     obtain ⟨e1, e2⟩ := HL.out.1 hb
     refine ⟨e2, ?_⟩
     have e3 : (s[pos]'hlt).toNat = r := e1.symm
     rw [HSn.out, HO.out]
     rcases hgood with h | h
     ·rw [z_lv (b := s[pos]'hlt) (by omega) (by omega)]; rfl
     ·rw [z_lc (b := s[pos]'hlt) h.1 (by omega) (by omega)]; rfl
    rcases hgood with ⟨g1, g2⟩ | ⟨g0, g1, g2⟩
    ·go_wp2
     go_roundw
     case rel => exact ⟨pos + 1, by omega, by rw [HN.out.1], HN.out.2⟩
     case measure => rw [HN.out.1]; simp; omega
    ·have g3 : r < 97 := by omega
     have g4 : ((pos : Int) == 0) = false := by simp; omega
     go_wp2
     go_roundw
     case rel => exact ⟨pos + 1, by omega, by rw [HN.out.1], HN.out.2⟩
     case measure => rw [HN.out.1]; simp; omega
   ·have HN : Hid (z_ac s = false) := by
     refine z_fe _ pos hlen ?_
     show okC pos (s[pos]'hlt) = false
     refine z_lm ?_ ?_
     ·intro h
      have := (HL.out.1 (by omega)).1
      exact hgood (.inl (by omega))
     ·intro h
      have := (HL.out.1 (by omega)).1
      exact hgood (.inr (by omega))
    have hcases : r < 48 ∨ (48 ≤ r ∧ r ≤ 57 ∧ pos = 0) ∨ (57 < r ∧ r < 97) ∨ 122 < r := by omega
    clear hgood
    rcases hcases with g | ⟨g1, g2, rfl⟩ | ⟨g1, g2⟩ | g
    ·go_wp2
     go_ret
     exact ⟨by rw [HN.out]; rfl, (Below.refl _ _).alloc (Nat.le_refl _) _⟩
    ·have g3 : r < 97 := by omega
     go_wp2
     go_ret
     exact ⟨by rw [HN.out]; rfl, (Below.refl _ _).alloc (Nat.le_refl _) _⟩
    ·have g3 : 48 ≤ r := by omega
     go_wp2
     go_ret
     exact ⟨by rw [HN.out]; rfl, (Below.refl _ _).alloc (Nat.le_refl _) _⟩
    ·have g1 : 97 ≤ r := by omega
     have g3 : 48 ≤ r := by omega
     have g4 : 57 < r := by omega
     have g5 : decide ((r : Int) ≤ 122) = false := by simp; omega
     go_wp2
     go_ret
     exact ⟨by rw [HN.out]; rfl, (Below.refl _ _).alloc (Nat.le_refl _) _⟩
  ·have hnx := fun ty => run_next_end (P := Tryz.prog) w s pos ty hlt
   have HN : Hid (z_ac s = (decide (1 ≤ s.size) && decide (s.size ≤ 8))) := by
    have e0 : s.data.toList.take pos = s.data.toList := List.take_of_length_le (by simp; omega)
    have := HO.out
    rw [e0] at this
    have := z_hM _ this
    have e1 : s.data.toList.length = s.size := by simp
    rw [e1] at this
    exact this
   by_cases h0 : s.size = 0
   ·have hz : s.toList.isEmpty = true := by rw [z_av]; simp [h0]
    go_wp2
    go_ret
    exact ⟨by rw [HN.out]; simp [h0], (Below.refl _ _).alloc (Nat.le_refl _) _⟩
   ·have hz : s.toList.isEmpty = false := by rw [z_av]; simp [h0]
    go_wp2
    go_ret
    have e1 : decide (1 ≤ s.size) = true := by simp; omega
    have e2 : decide ((s.size : Int) ≤ 8) = decide (s.size ≤ 8) := by simp only [decide_eq_decide]; omega
    exact ⟨by rw [HN.out, e1, Bool.true_and, ← e2]; rfl, (Below.refl _ _).alloc (Nat.le_refl _) _⟩
end
section
open Go.RowKit
theorem z_aX (k : Int) (w : World) : Calls Tryz.prog 110 #[.int .i64 k] w fun e w' => e = .returned (.bool (z_aE k)) ∧ w' = w := by
 go_enter Tryz.func110, Tryz.ntmps110
 go_wp2
 all_goals
  go_ret
  exact ⟨by simp [z_aE, *], rfl⟩
theorem z_bb (k : Int) (w : World) : Calls Tryz.prog 84 #[.int .i64 k] w fun e w' => e = .returned (.bool (z_am k)) ∧ w' = w := by
 go_enter Tryz.func84, Tryz.ntmps84
 go_wp2_with (go_at_call 110; refine (z_aX _ _).mono ?_; rintro e w' ⟨rfl, rfl⟩)
 all_goals
  go_ret
  exact ⟨by simp [z_am, *], rfl⟩
theorem z_bp (k : Int) (w : World) : Calls Tryz.prog 74 #[.int .i64 k] w fun e w' => e = .returned (.bool (z_ae k)) ∧ w' = w := by
 go_enter Tryz.func74, Tryz.ntmps74
 go_wp2
 all_goals
  go_ret
  exact ⟨by simp [z_ae, *], rfl⟩
theorem z_cE (k : Int) (w : World) : Calls Tryz.prog 166 #[.int .i64 k] w fun e w' => e = .returned (.bool (z_a1 k)) ∧ w' = w := by
 go_enter Tryz.func166, Tryz.ntmps166
 go_wp2
 all_goals
  go_ret
  exact ⟨by simp [z_a1, *], rfl⟩
theorem z_ao (k : Int) (w : World) : Calls Tryz.prog 71 #[.int .i64 k] w fun e w' => e = .returned (.bool (z_am k)) ∧ w' = w := by
 go_enter Tryz.func71, Tryz.ntmps71
 go_wp2
 all_goals
  go_ret
  exact ⟨by simp [z_am, z_aE, *], rfl⟩
theorem z_a8 (k : Int) (w : World) : Calls Tryz.prog 102 #[.int .i64 k] w fun e w' => e = .returned (.bool (z_a1 k)) ∧ w' = w := by
 go_enter Tryz.func102, Tryz.ntmps102
 go_wp2
 all_goals
  go_ret
  exact ⟨by simp [z_a1, *], rfl⟩
theorem z_ea (s : ByteArray) (w : World) : Calls Tryz.prog 206 #[.string s] w fun e w' => e = .returned (.bool (z_cC s)) ∧ w' = w := by
 cases h1 : (s.toList == [108, 101, 115, 115]) with
 | true => go_enter Tryz.func206, Tryz.ntmps206; go_wp2; go_ret; exact ⟨by simp [z_cC, h1], rfl⟩
 | false =>
  cases h2 : (s.toList == [115, 97, 109, 101]) with
  | true => go_enter Tryz.func206, Tryz.ntmps206; go_wp2; go_ret; exact ⟨by simp [z_cC, h1, h2], rfl⟩
  | false =>
   cases h3 : (s.toList == [109, 111, 114, 101]) with
   | true => go_enter Tryz.func206, Tryz.ntmps206; go_wp2; go_ret; exact ⟨by simp [z_cC, h1, h2, h3], rfl⟩
   | false =>
    cases h4 : (s.toList == [111, 116, 104, 101, 114]) with
    | true => go_enter Tryz.func206, Tryz.ntmps206; go_wp2; go_ret; exact ⟨by simp [z_cC, h1, h2, h3, h4], rfl⟩
    | false => go_enter Tryz.func206, Tryz.ntmps206; go_wp2; go_ret; exact ⟨by simp [z_cC, h1, h2, h3, h4], rfl⟩
theorem z_ep (s : ByteArray) (w : World) : Calls Tryz.prog 205 #[.string s] w fun e w' => e = .returned (.int .i64 (letN s)) ∧ w' = w := by
 cases h1 : (s.toList == [105, 115]) with
 | true => go_enter Tryz.func205, Tryz.ntmps205; go_wp2; go_ret; exact ⟨by simp [letN, h1], rfl⟩
 | false =>
  cases h2 : (s.toList == [97, 100, 100]) with
  | true => go_enter Tryz.func205, Tryz.ntmps205; go_wp2; go_ret; exact ⟨by simp [letN, h1, h2], rfl⟩
  | false =>
   cases h3 : (s.toList == [115, 117, 98]) with
   | true => go_enter Tryz.func205, Tryz.ntmps205; go_wp2; go_ret; exact ⟨by simp [letN, h1, h2, h3], rfl⟩
   | false =>
    cases h4 : (s.toList == [109, 117, 108]) with
    | true => go_enter Tryz.func205, Tryz.ntmps205; go_wp2; go_ret; exact ⟨by simp [letN, h1, h2, h3, h4], rfl⟩
    | false => go_enter Tryz.func205, Tryz.ntmps205; go_wp2; go_ret; exact ⟨by simp [letN, h1, h2, h3, h4], rfl⟩
theorem z_bs (n lo hi : Int) (w : World) : Calls Tryz.prog 47 #[.int .i64 n, .int .i64 lo, .int .i64 hi] w fun e w' => e = .returned (.bool (decide (lo ≤ n) && decide (n ≤ hi))) ∧ w' = w := by
 by_cases h1 : lo ≤ n
 ·go_enter Tryz.func47, Tryz.ntmps47
  go_wp2
  go_ret
  exact ⟨by simp [h1], rfl⟩
 ·have h2 : n < lo := by omega
  have h3 : decide (lo ≤ n) = false := by simp; omega
  go_enter Tryz.func47, Tryz.ntmps47
  go_wp2
  go_ret
  exact ⟨by first | rfl | (rw [h3]; rfl), rfl⟩
theorem z_aF (ao : Option Addr) (cap : Nat) (ss : List ByteArray) (s : ByteArray) (B : Nat) (w : World) (hl : ss.length ≤ 9223372036854775807) (hi : StrsAt 0 B w ao ss) :
  Calls Tryz.prog 141 #[.slice ao ss.length cap, .string s] w fun e w' => e = .returned (.bool (hasB ss s)) ∧ w' = w := by
 have HI : Hid (StrsAt 0 B w ao ss) := hi
 clear hi
 go_enter Tryz.func141, Tryz.ntmps141
 go_wp2
 go_loop [5] (fun i => ∃ k : Nat, k ≤ ss.length ∧ i = .int .i64 k ∧ Hid (hasB (ss.take k) s = false)) (fun i => ss.length - (intOf i).toNat)
 case atStart => exact ⟨0, Nat.zero_le _, rfl, by simp [hasB, Hid]⟩
 case round =>
  obtain ⟨k, hk, rfl, HH⟩ := hrel
  by_cases hlt : k < ss.length
  ·obtain ⟨b, off, rfl, hB, hc⟩ := HI.out.at k hlt
   cases he : (ss[k].toList == s.toList) with
   | true =>
    have HN : Hid (hasB ss s = true) := z_nn hlt (by rw [z_aI] at he; simpa using he)
    go_wp2
    go_ret
    exact ⟨by rw [HN.out]; rfl, rfl⟩
   | false =>
    have HN : Hid (hasB (ss.take (k + 1)) s = false) := by
     show _ = _
     rw [z_lh _ _ hlt, HH.out]; rw [z_aI] at he; simpa using he
    go_wp2
    go_round
    case rel => exact ⟨k + 1, by omega, by go_num, HN⟩
    case measure => simp [intOf]; omega
  ·have HN : Hid (hasB ss s = false) := by
    have e0 : ss.take k = ss := List.take_of_length_le (by omega)
    rw [← e0]; exact HH.out
   go_wp2
   go_ret
   exact ⟨by rw [HN.out]; rfl, rfl⟩
end
end Go.Proofs.YtlbjjbolbopfmaaGreatDoor
