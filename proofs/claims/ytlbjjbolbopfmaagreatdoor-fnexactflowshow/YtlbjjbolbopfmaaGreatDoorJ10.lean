import Derived.Test.YtlbjjbolbopfmaaGreatDoorJ06
import Derived.Test.YtlbjjbolbopfmaaGreatDoorJ02
import Derived.Lib.ItoaMem
namespace Go.Proofs.YtlbjjbolbopfmaaGreatDoor
set_option maxHeartbeats 2000000
set_option maxRecDepth 1000000
set_option linter.unusedVariables false
section
open Go.RowKit
section
variable {α : Type} (mk : Nat → α → α) (cnt : α → Nat)
end
theorem z_kZ {α : Type} {ps qs : List (α × Value)} (h : ps.map (·.2) = qs.map (·.2)) (hp : ps.Pairwise fun p q => ∀ k, p.2.ownBlock = some k → q.2.ownBlock ≠ some k) : qs.Pairwise fun p q => ∀ k, p.2.ownBlock = some k → q.2.ownBlock ≠ some k := by
 have h1 : (ps.map (·.2)).Pairwise fun (a b : Value) => ∀ k, a.ownBlock = some k → b.ownBlock ≠ some k := List.pairwise_map.2 hp
 rw [h] at h1
 exact List.pairwise_map.1 h1
section
variable {β : Type} {F : β → List Value} {K : Nat} {w : World} {base n cap g : Nat} {T : TypeId} {ms : List β} {i : Nat} {q q' : β}
theorem z_lD (hF : ∀ b, (F b).length = K) (h : w.ownsRow base T K (.slice (some ⟨g, 0, none⟩) n cap) n ((ms.set i q).flatMap F)) (hi : i < ms.length) (j : Nat) (hj : j < K) (u : Value) (hq : F q' = (F q).set j u) :
  (w.setCell ⟨g, i * K + j, none⟩ u).ownsRow base T K (.slice (some ⟨g, 0, none⟩) n cap) n ((ms.set i q').flatMap F) := by
 have h1 := z_cU h (i * K + j) u
 rw [z_j5 hF u q' (ms.set i q) i j (by simpa using hi) hj (by simpa using hq), List.set_set] at h1
 exact h1
end
theorem OwnSt.step {α : Type} {T : TypeId} {K : Nat} {f : α → Value → List Value} {ar : α → List ByteArray} {base : Nat} {w w' : World} {v : Value} {ms : List (α × Value)} (h : OwnSt T K f ar base w v ms) (hT : T ≠ 9) {j : Nat} (hj : j < ms.length) {q : α × Value} (hv : q.2 = ms[j].2)
  (hrow : w'.ownsRow base T K v ms.length ((ms.set j q).flatMap fun p => f p.1 p.2)) (hargs : w'.ownsRow base 9 1 q.2 (ar q.1).length (strCells (ar q.1))) (hi : Inn (fun b => v.ownBlock = some b ∨ q.2.ownBlock = some b) w w') : OwnSt T K f ar base w' v (ms.set j q) := by
 have hvals : ms.map (·.2) = (ms.set j q).map (·.2) := by
  rw [List.map_set]
  apply List.ext_getElem (by simp)
  intro n h3 h4
  rw [List.getElem_set]
  split
  ·rename_i e; subst e; simp [hv]
  ·rfl
 refine ⟨by rw [List.length_set]; exact hrow, fun x hx => ?_, z_kZ hvals h.apart⟩
 obtain ⟨i, hi2, rfl⟩ := List.getElem_of_mem hx
 rw [List.getElem_set]
 split
 ·exact hargs
 ·rename_i hne
  have hi3 : i < ms.length := by simpa using hi2
  refine hi.own (h.args _ (List.getElem_mem hi3)) fun k hk hs => ?_
  rcases hs with hs | hs
  ·exact z_cD h.row (h.args _ (List.getElem_mem hi3)) hT k hs hk
  ·rw [hv] at hs
   have hp := List.pairwise_iff_getElem.1 h.apart
   rcases Nat.lt_or_gt_of_ne hne with hl | hl
   ·exact hp j i hj hi3 hl k hs hk
   ·exact hp i j hi3 hj hl k hk hs
end
section
open Go.RowKit
set_option linter.unusedVariables false
end
section
open Go.RowKit
def decW (k : Nat) : ByteArray := ⟨(Lib.decDigits k).toArray⟩
theorem z_e {k : Nat} (h : k < 10) : decW k = ⟨#[dgt k]⟩ := by
 unfold decW; rw [Lib.decDigits_one h]; rfl
theorem z_j7 {k : Nat} (h : ¬ k < 10) : decW k = decW (k / 10) ++ ⟨#[dgt (k % 10)]⟩ := by
 unfold decW
 rw [show Lib.decDigits k = Lib.decDigits (k / 10) ++ [UInt8.ofNat (48 + k % 10)] by rw [Lib.decDigits, dif_neg h]]
 apply ByteArray.ext
 apply Array.ext'
 simp [dgt]
theorem z_cd (k : Nat) : k ≤ 1000000000 → (decW k).size ≤ 30 := by
 have key : ∀ n k : Nat, k < 10 ^ n → (decW k).size ≤ n + 1 := by
  intro n
  induction n with
  | zero =>
   intro k hk
   rw [z_e (by simp at hk; omega)]; exact Nat.le_refl 1
  | succ n ih =>
   intro k hk
   by_cases h : k < 10
   ·rw [z_e h]; show 1 ≤ _; omega
   ·have h1 := ih (k / 10) (by rw [Nat.pow_succ] at hk; omega)
    rw [z_j7 h, ByteArray.size_append]
    show (decW (k / 10)).size + 1 ≤ _
    omega
 intro h
 have := key 10 k (by omega)
 omega
theorem z_kb (W : World) (g d : Nat) (hd : d < 10) (hc : W.cell? ⟨g, 0, none⟩ = some (.int .u8 (48 + (d : Int)))) : (convert 40 9 (.slice (some ⟨g, 0, none⟩) 1 1)).run Tryz.prog W = .ok (.string ⟨#[dgt d]⟩) W := by
 refine run_convert_bytes_back (P := Tryz.prog) _ 40 9 5 ⟨g, 0, none⟩ 1 [dgt d] Tryz.underlying40 Tryz.underlying5 Tryz.underlying9 ?_
 intro j hj
 have : j = 0 := by simpa using hj
 subst this
 have e : (⟨g, 0, none⟩ : Addr).add 0 = ⟨g, 0, none⟩ := by
  unfold Addr.add; split
  ·rfl
  ·rfl
 rw [e, hc]
 simp [z_ag hd]
theorem z_dQ (n : Nat) : n ≤ 1000000000 → ∀ w : World, Calls Tryz.prog 40 #[.int .i64 n] w fun e w' => e = .returned (.string (decW n)) ∧ Below w.heap.size w w' := by
 induction n using Nat.strongRecOn with
 | ind n ih =>
  intro hn w
  have hn0 : ¬ (n : Int) < 0 := by omega
  by_cases h : n < 10
  ·have HW : Hid (decW n = ⟨#[dgt n]⟩) := z_e h
   have kc1 := z_kb (w.alloc (.cells #[.int .u8 (48 + (n : Int))] 5)) w.heap.size n h (by simp)
   have h10 : (n : Int) < 10 := by omega
   clear ih
   go_enter Tryz.func40, Tryz.ntmps40
   go_wp2
   go_ret
   exact ⟨by rw [HW.out] <;> rfl, (Below.refl _ _).alloc (Nat.le_refl _) _⟩
  ·have HW : Hid (decW n = decW (n / 10) ++ ⟨#[dgt (n % 10)]⟩) := z_j7 h
   have HIH : Hid (∀ w : World, Calls Tryz.prog 40 #[.int .i64 ((n / 10 : Nat) : Int)] w fun e w' => e = .returned (.string (decW (n / 10))) ∧ Below w.heap.size w w') := ih (n / 10) (by omega) (by omega)
   have hsz := z_cd (n / 10) (by omega)
   have f1 : ¬ 9223372036854775807 < (decW (n / 10)).size + 1 := by omega
   have hmod : n % 10 < 10 := Nat.mod_lt _ (by decide)
   have KC : Hid (∀ (W : World) (g : Nat), W.cell? ⟨g, 0, none⟩ = some (.int .u8 (48 + (n : Int) % 10)) → (convert 40 9 (.slice (some ⟨g, 0, none⟩) 1 1)).run Tryz.prog W = .ok (.string ⟨#[dgt (n % 10)]⟩) W) := fun W g hc => z_kb W g (n % 10) hmod (by rw [show ((n % 10 : Nat) : Int) = (n : Int) % 10 by omega]; exact hc)
   have kcn : ∀ wx : World, (convert 40 9 (.slice (some ⟨wx.heap.size, 0, none⟩) 1 1)).run Tryz.prog (wx.alloc (.cells #[.int .u8 (48 + (n : Int) % 10)] 5)) = .ok (.string ⟨#[dgt (n % 10)]⟩) (wx.alloc (.cells #[.int .u8 (48 + (n : Int) % 10)] 5)) := fun wx => KC.out _ _ (by simp)
   have kcd := KC.out ((w.alloc (.cells #[.int .u8 (48 + (n : Int) % 10)] 5)).drew) w.heap.size (show (w.alloc (.cells #[.int .u8 (48 + (n : Int) % 10)] 5)).cell? ⟨w.heap.size, 0, none⟩ = _ by simp)
   have h10 : ¬ (n : Int) < 10 := by omega
   have hq : IntKind.i64.wrap ((n : Int) / 10) = ((n / 10 : Nat) : Int) := by rw [IntKind.wrap_i64]; omega
   have ht : (n : Int).tmod 10 = (n : Int) % 10 := by rw [Int.tmod_eq_emod_of_nonneg (by omega)]
   have hw2 : IntKind.i64.wrap (48 + (n : Int) % 10) = 48 + (n : Int) % 10 := by rw [IntKind.wrap_i64]; omega
   have hw3 : IntKind.u8.wrap (48 + (n : Int) % 10) = 48 + (n : Int) % 10 := by simp only [IntKind.wrap_u8]; omega
   clear ih
   go_enter Tryz.func40, Tryz.ntmps40
   go_wp2_with fail
   go_region_with (go_at_call 40; first
    | (refine Calls.mono (HIH.out w.drew) ?_; rintro e w1 ⟨rfl, hb1⟩; have HB1 : Hid (Below w.heap.size w w1) := (Below.refl w.heap.size w).drew.trans hb1; clear hb1)
    | (refine Calls.mono (HIH.out ((w.alloc (.cells #[.int .u8 (48 + (n : Int) % 10)] 5)).drew)) ?_; rintro e w1 ⟨rfl, hb1⟩; have HB1 : Hid (Below w.heap.size w w1) := ((Below.refl w.heap.size w).alloc (Nat.le_refl _) _).drew.trans (hb1.mono (by simp)); have kc2 := KC.out w1 w.heap.size ((hb1.cell (p := ⟨w.heap.size, 0, none⟩) (by simp)).trans (by simp)); clear hb1))
   all_goals
    go_wp2
    go_ret
    exact ⟨by rw [HW.out] <;> rfl, by first | exact HB1.out | exact HB1.out.alloc HB1.out.size _⟩
end
end Go.Proofs.YtlbjjbolbopfmaaGreatDoor
