import Derived.Test.YtlbjjbolbopfmaaGreatDoorJ00
import Derived.Test.YtlbjjbolbopfmaaGreatDoorJ03
import Derived.Deep.LoopGhost
import Derived.BigQuiet
import Derived.Deep.QuietTactic
namespace Go.Proofs.YtlbjjbolbopfmaaGreatDoor
set_option maxHeartbeats 2000000
set_option maxRecDepth 1000000
set_option linter.unusedVariables false
section
open Go.RowKit
theorem Tryz.infoOpn : (Tryz.prog.info? 174).map (fun i => (i.zero, i.size, i.bytes)) = some (some (.agg #[.int .i64 0, .bool false]), 2, 16) := by kernel_rfl
def z_aB (os : List Opn) : List Value := os.flatMap fun o => [.int .i64 o.1, .bool o.2]
theorem z_bx (a b : List Opn) : z_aB (a ++ b) = z_aB a ++ z_aB b := by simp [z_aB]
theorem z_a4 : ∀ os : List Opn, (z_aB os).length = os.length * 2
 | [] => rfl
 | o :: r => by
  have := z_a4 r
  simp only [z_aB, List.flatMap_cons, List.length_append, List.length_cons, List.length_nil] at this ⊢
  omega
theorem z_mo (os : List Opn) (o : Opn) : (z_aB (os ++ [o]))[os.length * 2]? = some (.int .i64 o.1) ∧ (z_aB (os ++ [o]))[os.length * 2 + 1]? = some (.bool o.2) := by
 rw [z_bx]
 constructor
 ·rw [List.getElem?_append_right (by rw [z_a4]; omega), z_a4, Nat.sub_self]; rfl
 ·rw [List.getElem?_append_right (by rw [z_a4]; omega), z_a4, Nat.add_sub_cancel_left]; rfl
theorem z_nd (os : List Opn) (o : Opn) (b : Bool) : (z_aB (os ++ [o])).set (os.length * 2 + 1) (.bool b) = z_aB (os ++ [(o.1, b)]) := by
 rw [z_bx, z_bx, List.set_append_right _ _ (by rw [z_a4]; omega), z_a4, Nat.add_sub_cancel_left]; rfl
theorem z_mD (os : List Opn) (o : Opn) : (z_aB (os ++ [o])).take (os.length * 2) = z_aB os := by
 rw [z_bx, List.take_append_of_le_length (by rw [z_a4]; omega), List.take_of_length_le (by rw [z_a4]; omega)]
def z_eH (base : Nat) (w : World) (v : Value) (r : List Opn × Bool) (e : Ending) (w' : World) : Prop :=
 ∃ v', e = .returned (.tuple #[v', .bool r.2]) ∧ w.grownBy w' v.ownBlock ∧ w'.ownsRow base 174 2 v' r.1.length (z_aB r.1)
theorem z_kv (w : World) (a b : Value) (t : TypeId) : ∀ j u, [a, b][j]? = some u → (w.alloc (.cells #[a, b] t)).cell? ((⟨w.heap.size, 0, none⟩ : Addr).add j) = some u := by
 intro j u hj
 match j, hj with
 | 0, hj => simp at hj; subst hj; simp [Addr.add]
 | 1, hj => simp at hj; subst hj; simp [Addr.add]
 | j + 2, hj => simp at hj
theorem z_dI (os : List Opn) (v : Value) (k : Int) (first : Bool) (base : Nat) (w : World) (ho : w.ownsRow base 174 2 v os.length (z_aB os)) (hf : ((k == 1) != first) = true) :
  Calls Tryz.prog 92 #[v, .int .i64 k, .bool first] w fun e w' => z_eH base w v (z_aS os k first) e w' := by
 have HN : Hid (z_aS os k first = (os, false)) := by show _ = _; rw [z_aS, if_pos hf]
 have HO : Hid (w.ownsRow base 174 2 v os.length (z_aB os)) := ho
 have hq : (k == 1) = !first := by cases h1 : (k == 1) <;> cases first <;> simp_all
 clear ho hf
 cases first
 all_goals
  simp only [Bool.not_true, Bool.not_false] at hq
  go_enter Tryz.func92, Tryz.ntmps92
  go_wp2
  go_ret2
  exact ⟨_, (by rw [HN.out]; rfl), z_bW, by rw [HN.out]; exact HO.out⟩
theorem z_e6 (os : List Opn) (v : Value) (k : Int) (first : Bool) (base : Nat) (w : World) (hb : base ≤ w.heap.size) (hl : os.length ≤ 1000) (ho : w.ownsRow base 174 2 v os.length (z_aB os)) (hc : z_ae k = false) :
  Calls Tryz.prog 92 #[v, .int .i64 k, .bool first] w fun e w' => z_eH base w v (z_aS os k first) e w' := by
 obtain ⟨i0, hi0, hz0, hz1, hz2⟩ := info_parts Tryz.infoOpn
 have HO : Hid (w.ownsRow base 174 2 v os.length (z_aB os)) := ho
 clear ho
 by_cases hf : ((k == 1) != first) = true
 ·exact z_dI os v k first base w HO.out hf
 ·have hf0 : ((k == 1) != first) = false := by simpa using hf
  clear hf
  cases hk : z_am k with
  | true =>
   have HN : Hid (z_aS os k first = (os ++ [(k, false)], true)) := by show _ = _; rw [z_aS, hf0, hk]; rfl
   have hq : (k == 1) = first := by cases h1 : (k == 1) <;> cases first <;> simp_all
   clear hf0
   cases first
   all_goals
    go_enter Tryz.func92, Tryz.ntmps92
    go_wp2_with (first
     | (go_at_call 84; refine (z_bb _ _).mono ?_; rintro e w ⟨rfl, rfl⟩; rw [hk])
     | (at_builtin; refine wpList_append_own _ rfl _ _ 128 rfl base 174 i0 _ 2 16 Tryz.underlying128 hi0 hz0 hz1 hz2 rfl (by decide) _ _ _ rfl (HO.out.alloc _) ⟨w.heap.size, 0, none⟩ 1 1 [.int .i64 k, .bool false] rfl rfl (z_kv _ _ _ _) (fun u hu => by simp at hu; rcases hu with rfl | rfl <;> rfl) (by unfold maxLen; omega) (by omega) (by simp; omega) ?_; intro v' w3 hown' hgrow3 hnil3; have hb3 : w.grownBy w3 v.ownBlock := z_ah (z_bt ((Below.refl _ _).alloc (Nat.le_refl _) _)) hgrow3 (.inl (by rfl)); have X : Aside (w3.ownsRow base 174 2 v' (os ++ [(k, false)]).length (z_aB (os ++ [(k, false)])) ∧ w.grownBy w3 v.ownBlock) := ⟨by rw [z_bx, List.length_append]; exact hown', hb3⟩; clear hown' hgrow3 hnil3 hb3))
    go_ret2
    exact ⟨_, (by rw [HN.out]; rfl), X.out.2, by rw [HN.out]; exact X.out.1⟩
  | false =>
   have HN : Hid (z_aS os k first = (os, true)) := by show _ = _; rw [z_aS, hf0, hk, hc]; rfl
   have hq : (k == 1) = first := by cases h1 : (k == 1) <;> cases first <;> simp_all
   clear hf0
   cases first
   all_goals
    go_enter Tryz.func92, Tryz.ntmps92
    go_wp2_with (first
     | (go_at_call 84; refine (z_bb _ _).mono ?_; rintro e w ⟨rfl, rfl⟩; rw [hk])
     | (go_at_call 74; refine (z_bp _ _).mono ?_; rintro e w ⟨rfl, rfl⟩; rw [hc]))
    go_ret2
    exact ⟨_, (by rw [HN.out]; rfl), z_bW, by rw [HN.out]; exact HO.out⟩
end
section
open Go.RowKit
theorem z_dx {k : Int} (h : z_ae k = true) : (k == 1) = false := by
 rw [z_be] at h
 rcases h with rfl | rfl | rfl <;> rfl
theorem z_fi (v : Value) (k : Int) (base : Nat) (w : World) (ho : w.ownsRow base 174 2 v 0 []) (hc : z_ae k = true) :
  Calls Tryz.prog 92 #[v, .int .i64 k, .bool false] w fun e w' => z_eH base w v (z_aS [] k false) e w' := by
 have hq := z_dx hc
 have hk := z_cb hc
 have HN : Hid (z_aS [] k false = ([], false)) := by show _ = _; rw [z_aS, hq, hk, hc]; rfl
 have HO : Hid (w.ownsRow base 174 2 v 0 []) := ho
 rcases ho.2 with ⟨rfl, _⟩ | ⟨g, cap, cur, rfl, _⟩
 all_goals
  clear ho
  go_enter Tryz.func92, Tryz.ntmps92
  go_wp2_with (first
   | (go_at_call 84; refine (z_bb _ _).mono ?_; rintro e w ⟨rfl, rfl⟩; rw [hk])
   | (go_at_call 74; refine (z_bp _ _).mono ?_; rintro e w ⟨rfl, rfl⟩; rw [hc]))
  go_ret2
  exact ⟨_, (by rw [HN.out]; rfl), z_bW, by rw [HN.out]; exact HO.out⟩
theorem z_mx {w : World} {base : Nat} {v : Value} {os : List Opn} {x : Int} {t : Bool} (ho : w.ownsRow base 174 2 v (os ++ [(x, t)]).length (z_aB (os ++ [(x, t)]))) :
  ∃ g cap, v = .slice (some ⟨g, 0, none⟩) (os.length + 1) cap ∧ os.length + 1 ≤ cap ∧ base ≤ g ∧ g < w.heap.size ∧ w.cell? ⟨g, os.length * 2, none⟩ = some (.int .i64 x) ∧ w.cell? ⟨g, os.length * 2 + 1, none⟩ = some (.bool t) ∧ w.frozen? ⟨g, os.length * 2 + 1, none⟩ = false ∧
   w.ownsRow base 174 2 (.slice (some ⟨g, 0, none⟩) (os.length + 1) cap) (os.length + 1) (z_aB (os ++ [(x, t)])) := by
 have hlen : (os ++ [(x, t)]).length = os.length + 1 := by simp
 rw [hlen] at ho
 have h0 := ho
 rcases ho.2 with ⟨_, h⟩ | ⟨g, cap, cur, rfl, hb, hg, hn, hm, hs, ht⟩
 ·omega
 ·obtain ⟨e1, e2⟩ := z_mo os (x, t)
  have hl2 : (z_aB (os ++ [(x, t)])).length = os.length * 2 + 2 := by rw [z_a4, hlen]; omega
  refine ⟨g, cap, rfl, hn, hb, (h0.lt g rfl).2, ?_, ?_, frozen_of_row w g _ cur _ hg, h0⟩
  ·rw [h0.cellAt _ (by omega)]; exact e1
  ·rw [h0.cellAt _ (by omega)]; exact e2
theorem z_eu {w : World} {base g cap : Nat} {os : List Opn} {x : Int} {t : Bool} (ho : w.ownsRow base 174 2 (.slice (some ⟨g, 0, none⟩) (os.length + 1) cap) (os.length + 1) (z_aB (os ++ [(x, t)]))) (hg : base ≤ g) :
  w.grownBy (w.setCell ⟨g, os.length * 2 + 1, none⟩ (.bool true)) (some g) ∧ (w.setCell ⟨g, os.length * 2 + 1, none⟩ (.bool true)).ownsRow base 174 2 (.slice (some ⟨g, 0, none⟩) (os.length + 1) cap) (os ++ [(x, true)]).length (z_aB (os ++ [(x, true)])) := by
 refine ⟨z_aj _ _ _, ?_⟩
 have h := z_cU ho (os.length * 2 + 1) (.bool true)
 rw [z_nd] at h
 rw [show (os ++ [(x, true)]).length = os.length + 1 by simp]
 exact h
theorem z_is (os : List Opn) (x : Int) (t : Bool) (k : Int) (hc : z_ae k = true) : z_aS (os ++ [(x, t)]) k false = if k = 7 then (os ++ [(x, true)], z_aE x && !t) else if k = 10 then (os ++ [(x, true)], (x == 9) && !t) else (os, (x != 9) || t) := by
 have hq := z_dx hc
 have hk := z_cb hc
 rw [z_aS, hq, hk, hc]
 simp
theorem z_jK (os : List Opn) (x : Int) (t : Bool) (g cap : Nat) (base : Nat) (w : World) (hn : os.length + 1 ≤ cap) (hl : cap ≤ 9223372036854775807) (hg : base ≤ g)
  (c0 : w.cell? ⟨g, os.length * 2, none⟩ = some (.int .i64 x)) (c1 : w.cell? ⟨g, os.length * 2 + 1, none⟩ = some (.bool t)) (f1 : w.frozen? ⟨g, os.length * 2 + 1, none⟩ = false) :
  Calls Tryz.prog 92 #[.slice (some ⟨g, 0, none⟩) (os.length + 1) cap, .int .i64 7, .bool false] w fun e w' => e = .returned (.tuple #[.slice (some ⟨g, 0, none⟩) (os.length + 1) cap, .bool (z_aE x && !t)]) ∧ w' = w.setCell ⟨g, os.length * 2 + 1, none⟩ (.bool true) := by
 cases hx : z_aE x <;> cases t
 all_goals
  go_enter Tryz.func92, Tryz.ntmps92
  go_wp2_with (first
   | (go_at_call 84; refine (z_bb _ _).mono ?_; rintro e w ⟨rfl, rfl⟩; rw [show z_am 7 = false from rfl])
   | (go_at_call 74; refine (z_bp _ _).mono ?_; rintro e w ⟨rfl, rfl⟩; rw [show z_ae 7 = true from rfl])
   | (go_at_call 110; refine (z_aX _ _).mono ?_; rintro e w ⟨rfl, rfl⟩; rw [hx]))
  go_ret2
  exact ⟨rfl, rfl⟩
end
section
open Go.RowKit
theorem z_h5 (os : List Opn) (x : Int) (t : Bool) (g cap : Nat) (base : Nat) (w : World) (hn : os.length + 1 ≤ cap) (hl : cap ≤ 9223372036854775807) (hg : base ≤ g)
  (c0 : w.cell? ⟨g, os.length * 2, none⟩ = some (.int .i64 x)) (c1 : w.cell? ⟨g, os.length * 2 + 1, none⟩ = some (.bool t)) (f1 : w.frozen? ⟨g, os.length * 2 + 1, none⟩ = false) :
  Calls Tryz.prog 92 #[.slice (some ⟨g, 0, none⟩) (os.length + 1) cap, .int .i64 10, .bool false] w fun e w' => e = .returned (.tuple #[.slice (some ⟨g, 0, none⟩) (os.length + 1) cap, .bool ((x == 9) && !t)]) ∧ w' = w.setCell ⟨g, os.length * 2 + 1, none⟩ (.bool true) := by
 cases hx : (x == 9) <;> cases t
 all_goals
  go_enter Tryz.func92, Tryz.ntmps92
  go_wp2_with (first
   | (go_at_call 84; refine (z_bb _ _).mono ?_; rintro e w ⟨rfl, rfl⟩; rw [show z_am 10 = false from rfl])
   | (go_at_call 74; refine (z_bp _ _).mono ?_; rintro e w ⟨rfl, rfl⟩; rw [show z_ae 10 = true from rfl]))
  go_ret2
  exact ⟨rfl, rfl⟩
theorem z_iU (os : List Opn) (x : Int) (t : Bool) (g cap : Nat) (base : Nat) (w : World) (hn : os.length + 1 ≤ cap) (hl : cap ≤ 9223372036854775807) (hg : base ≤ g)
  (c0 : w.cell? ⟨g, os.length * 2, none⟩ = some (.int .i64 x)) (c1 : w.cell? ⟨g, os.length * 2 + 1, none⟩ = some (.bool t)) (f1 : w.frozen? ⟨g, os.length * 2 + 1, none⟩ = false) :
  Calls Tryz.prog 92 #[.slice (some ⟨g, 0, none⟩) (os.length + 1) cap, .int .i64 11, .bool false] w fun e w' => e = .returned (.tuple #[.slice (some ⟨g, 0, none⟩) os.length cap, .bool ((x != 9) || t)]) ∧ ∃ q, w' = w.drewN q := by
 by_cases hx : x = 9
 ·subst hx
  go_enter Tryz.func92, Tryz.ntmps92
  go_wp2_with (first
   | (go_at_call 84; refine (z_bb _ _).mono ?_; rintro e w ⟨rfl, rfl⟩; rw [show z_am 11 = false from rfl])
   | (go_at_call 74; refine (z_bp _ _).mono ?_; rintro e w ⟨rfl, rfl⟩; rw [show z_ae 11 = true from rfl]))
  go_quiet (fail)
  go_wp2
  go_ret2
  exact ⟨rfl, _, rfl⟩
 ·have hq : (x == 9) = false := by simpa using hx
  have hq2 : (x != 9) = true := by simpa using hx
  clear hx
  go_enter Tryz.func92, Tryz.ntmps92
  go_wp2_with (first
   | (go_at_call 84; refine (z_bb _ _).mono ?_; rintro e w ⟨rfl, rfl⟩; rw [show z_am 11 = false from rfl])
   | (go_at_call 74; refine (z_bp _ _).mono ?_; rintro e w ⟨rfl, rfl⟩; rw [show z_ae 11 = true from rfl]))
  go_quiet (fail)
  go_wp2
  go_ret2
  exact ⟨by rw [hq2]; rfl, _, rfl⟩
theorem z_gZ (os : List Opn) (v : Value) (k : Int) (first : Bool) (base : Nat) (w : World) (hb : base ≤ w.heap.size) (hl : os.length ≤ 1000) (ho : w.ownsRow base 174 2 v os.length (z_aB os)) :
  Calls Tryz.prog 92 #[v, .int .i64 k, .bool first] w fun e w' => z_eH base w v (z_aS os k first) e w' := by
 by_cases hf : ((k == 1) != first) = true
 ·exact z_dI os v k first base w ho hf
 ·cases hc : z_ae k with
  | false => exact z_e6 os v k first base w hb hl ho hc
  | true =>
   have h1 := z_dx hc
   have : first = false := by rw [h1] at hf; cases first <;> simp_all
   subst this
   rcases List.eq_nil_or_concat os with rfl | ⟨os0, ⟨x, t⟩, rfl⟩
   ·exact z_fi v k base w ho hc
   ·rw [List.concat_eq_append] at ho hl ⊢
    obtain ⟨g, cap, rfl, hn, hg, hgw, c0, c1, f1, ho2⟩ := z_mx ho
    have hcap : cap ≤ 9223372036854775807 := by
     rcases ho2.2 with ⟨h, _⟩ | ⟨_, _, _, h, _, _, _, hm, _⟩
     ·cases h
     ·cases h; unfold maxLen at hm; omega
    rw [z_is os0 x t k hc]
    rw [z_be] at hc
    rcases hc with rfl | rfl | rfl
    ·obtain ⟨a, b⟩ := z_eu ho2 hg
     refine (z_jK os0 x t g cap base w hn hcap hg c0 c1 f1).mono ?_
     rintro e w' ⟨rfl, rfl⟩
     exact ⟨_, rfl, a, b⟩
    ·obtain ⟨a, b⟩ := z_eu ho2 hg
     refine (z_h5 os0 x t g cap base w hn hcap hg c0 c1 f1).mono ?_
     rintro e w' ⟨rfl, rfl⟩
     exact ⟨_, rfl, a, b⟩
    ·refine (z_iU os0 x t g cap base w hn hcap hg c0 c1 f1).mono ?_
     rintro e w' ⟨rfl, q, rfl⟩
     have hb3 : Below w.heap.size w (w.drewN q) := z_aa (Below.refl _ _) _
     refine ⟨_, rfl, z_bt hb3, ?_⟩
     have := z_ax (z_gA ho2 os0.length (by omega)) hb3
     rw [z_mD] at this
     exact this
end
section
open Go.RowKit
def z_eg (v : Value) : Prop := ∃ (ln c : Int), v = .iface 96 (.agg #[.int .i64 ln, .int .i64 c]) ∧ c ≠ 0
theorem z_f2 {ls : List Ln} {k : Nat} {os : List Opn} (hk : k < ls.length) (hp : z_aL true [] (z_bf (ls.take k)) = some os) :
  z_aL true [] (z_bf (ls.take (k + 1))) = z_bo (decide (k = 0)) os ls[k].1 := by
 rw [z_ft ls k hk, z_eP, hp, Option.bind_some]
 congr 1
 cases k with
 | zero => simp [z_bf]
 | succ k =>
  have : (z_bf (ls.take (k + 1))).isEmpty = false := by
   match ls, hk with
   | a :: r, _ => simp [z_bf]
  rw [this]; simp
theorem z_d2 (ao : Option Addr) (cap : Nat) (w : World) :
  Calls Tryz.prog 61 #[.slice ao 0 cap] w fun e w' => ∃ v, e = .returned v ∧ z_eg v ∧ w' = w := by
 go_enter Tryz.func61, Tryz.ntmps61
 go_wp2
 go_ret
 exact ⟨_, rfl, ⟨_, _, rfl, by decide⟩, rfl⟩
end
section
def gOf (ks k : List ByteArray) : List ByteArray := k.drop ks.length
theorem z_kV (ks g : List ByteArray) : gOf ks (ks ++ g) = g := by simp [gOf]
def z_bA (ks : List ByteArray) (both : Bool) (t : Bl) : Option (List ByteArray × Bool) := (z_al ks both true t).map fun r => (gOf ks r.1, r.2)
theorem z_cj {ks : List ByteArray} {both : Bool} {t : Bl} {g : List ByteArray} {c : Bool} (h : z_bA ks both t = some (g, c)) : z_al ks both true t = some (ks ++ g, c) ∧ News ks g := by
 unfold z_bA at h
 cases hc : z_al ks both true t with
 | none => rw [hc] at h; cases h
 | some r =>
  obtain ⟨k, c'⟩ := r
  obtain ⟨g', rfl, hn⟩ := z_bM t ks both true k c' hc
  rw [hc] at h
  simp only [Option.map_some, z_kV, Option.some.injEq, Prod.mk.injEq] at h
  obtain ⟨rfl, rfl⟩ := h
  exact ⟨rfl, hn⟩
theorem z_de {ks : List ByteArray} {both : Bool} {t : Bl} (h : z_bA ks both t = none) : z_al ks both true t = none := by
 unfold z_bA at h
 cases hc : z_al ks both true t with
 | none => rfl
 | some r => rw [hc] at h; cases h
def z_cu (ks : List ByteArray) (both : Bool) : Bl → Option (List ByteArray × Bool)
 | .nil => none
 | .plain l _ => some (if l.2.to.toList.isEmpty = true then [] else [l.2.to], !z_a1 l.1)
 | .one _ p _ _ => match z_bA ks both p with
  | none => none
  | some _ => some ([], true)
 | .two l p _ q _ _ => match z_bA ks (both || (l.1 == 9)) p with
  | none => none
  | some (g1, c1) => match z_bA ks (both || (l.1 == 9)) q with
   | none => none
   | some (g2, c2) => if l.1 = 9 then (if z_a5 p.flat q.flat = true then none else some (g1 ++ g2, true)) else if c1 = false then some (g2, c2) else if c2 = false then some (g1, true) else some (comm g1 g2, true)
def z_au : Bl → Ln
 | .nil => (0, ⟨eS, eS, [], eS⟩)
 | .plain l _ => l
 | .one l _ _ _ => l
 | .two l _ _ _ _ _ => l
def z_aO : Bl → Bl
 | .nil => .nil
 | .plain _ r => r
 | .one _ _ _ r => r
 | .two _ _ _ _ _ r => r
def z_ai : Bl → Nat
 | .nil => 0
 | .plain _ _ => 1
 | .one _ p _ _ => p.flat.length + 2
 | .two _ p _ q _ _ => p.flat.length + q.flat.length + 3
def z_aR : Bl → Bool
 | .nil => false
 | _ => true
theorem z_b7 (t : Bl) : t.flat.length = z_ai t + (z_aO t).flat.length := by
 cases t <;> simp [Bl.flat, z_ai, z_aO] <;> omega
theorem z_cK {t : Bl} {ls rest : List Ln} {n : Nat} (h : ls.drop n = t.flat ++ rest) : ls.drop (n + z_ai t) = (z_aO t).flat ++ rest := by
 rw [← List.drop_drop, h]
 cases t with
 | nil => simp [z_ai, z_aO, Bl.flat]
 | plain l r => simp [z_ai, z_aO, Bl.flat]
 | one l p e r =>
  simp only [z_ai, z_aO, Bl.flat]
  rw [show l :: (p.flat ++ e :: r.flat) ++ rest = (l :: (p.flat ++ [e])) ++ (r.flat ++ rest) by simp, List.drop_left' (by simp)]
 | two l p m q e r =>
  simp only [z_ai, z_aO, Bl.flat]
  rw [show l :: (p.flat ++ m :: (q.flat ++ e :: r.flat)) ++ rest = (l :: (p.flat ++ m :: (q.flat ++ [e]))) ++ (r.flat ++ rest) by simp, List.drop_left' (by simp; omega)]
theorem z_bX {t : Bl} {ls rest : List Ln} {n : Nat} (h : ls.drop n = t.flat ++ rest) (hn : z_aR t = true) : ∃ hl : n < ls.length, ls[n] = z_au t := by
 have hne : ls.drop n ≠ [] := by rw [h]; cases t <;> simp [Bl.flat, z_aR] at hn ⊢
 have hl : n < ls.length := by
  rcases Nat.lt_or_ge n ls.length with h | h
  ·exact h
  ·exact absurd (List.drop_eq_nil_of_le h) hne
 refine ⟨hl, ?_⟩
 have e := List.drop_eq_getElem_cons hl
 rw [h] at e
 cases t with
 | nil => cases hn
 | plain l r => simp only [Bl.flat, List.cons_append, List.cons.injEq] at e; exact e.1.symm
 | one l p x r => simp only [Bl.flat, List.cons_append, List.cons.injEq] at e; exact e.1.symm
 | two l p m q x r => simp only [Bl.flat, List.cons_append, List.cons.injEq] at e; exact e.1.symm
theorem z_cL {t : Bl} (hn : z_aR t = true) (hw : t.wf) : z_ae (z_au t).1 = false := by
 cases t with
 | nil => cases hn
 | plain l r => exact hw.2.1
 | one l p x r =>
  have := hw.1
  rw [z_b6] at this
  show z_ae l.1 = false
  rcases this with h | h | h | h <;> rw [h] <;> rfl
 | two l p m q x r =>
  show z_ae l.1 = false
  rcases hw.1 with ⟨h, _⟩ | ⟨h, _⟩
  ·rw [z_bK] at h; rcases h with h | h <;> rw [h] <;> rfl
  ·rw [h]; rfl
theorem z_ed {t : Bl} (hw : t.wf) : (z_aO t).wf := by
 cases t with
 | nil => trivial
 | plain l r => exact hw.2.2.2
 | one l p x r => exact hw.2.2.2.2
 | two l p m q x r => exact hw.2.2.2.2
theorem z_dV (ks : List ByteArray) (both live : Bool) (t : Bl) (hn : z_aR t = true) : z_al ks both live t = if z_bk ks both live (z_au t) = true then (match z_cu ks both t with | none => none | some (g, c) => z_al (uniU ks g) both c (z_aO t)) else none := by
 cases t with
 | nil => cases hn
 | plain l r =>
  by_cases hlo : z_bk ks both live l = true
  ·simp only [z_al, z_au, z_cu, z_aO, hlo, if_true]
   congr 1
   unfold z_c5
   split <;> rfl
  ·rw [z_al, if_neg hlo]; exact (if_neg hlo).symm
 | one l p e r =>
  by_cases hlo : z_bk ks both live l = true
  ·simp only [z_al, z_au, z_cu, z_aO, hlo, if_true]
   cases hp : z_bA ks both p with
   | none => rw [z_de hp]
   | some x =>
    obtain ⟨g, c⟩ := x
    rw [(z_cj hp).1]; rfl
  ·rw [z_al, if_neg hlo]; exact (if_neg hlo).symm
 | two l p m q e r =>
  by_cases hlo : z_bk ks both live l = true
  ·simp only [z_al, z_au, z_cu, z_aO, hlo, if_true]
   cases hp : z_bA ks (both || (l.1 == 9)) p with
   | none => rw [z_de hp]
   | some x =>
    obtain ⟨g1, c1⟩ := x
    obtain ⟨h1, n1⟩ := z_cj hp
    rw [h1]
    cases hq : z_bA ks (both || (l.1 == 9)) q with
    | none => rw [z_de hq]
    | some y =>
     obtain ⟨g2, c2⟩ := y
     obtain ⟨h2, n2⟩ := z_cj hq
     rw [h2]
     simp only
     by_cases h9 : l.1 = 9
     ·simp only [if_pos h9]
      by_cases hc : z_a5 p.flat q.flat = true
      ·simp only [if_pos hc]
      ·simp only [if_neg hc]; rw [z_ho ks g1 g2 n1]
     ·simp only [if_neg h9]
      by_cases hc1 : c1 = false
      ·simp only [if_pos hc1]; rw [z_b5 g2 ks n2]
      ·simp only [if_neg hc1]
       by_cases hc2 : c2 = false
       ·simp only [if_pos hc2]; rw [z_b5 g1 ks n1]
       ·simp only [if_neg hc2]; rw [z_b5 (comm g1 g2) ks (z_hP n1), z_fs ks g1 g2 n1]
  ·rw [z_al, if_neg hlo]; exact (if_neg hlo).symm
theorem z_lR (a b : List ByteArray) : (comm a b).length ≤ a.length := List.length_filter_le _ _
theorem z_g1 (n : Nat) : ∀ (t : Bl), t.flat.length ≤ n → ∀ (ks : List ByteArray) (both live : Bool) (k : List ByteArray) (c : Bool), z_al ks both live t = some (k, c) → k.length ≤ ks.length + t.flat.length := by
 induction n with
 | zero =>
  intro t ht ks both live k c h
  cases t with
  | nil => simp only [z_al, Option.some.injEq, Prod.mk.injEq] at h; rw [← h.1]; omega
  | plain l r => simp [Bl.flat] at ht
  | one l p e r => simp [Bl.flat] at ht
  | two l p m q e r => simp [Bl.flat] at ht
 | succ n ih =>
  intro t ht ks both live k c h
  have ul : ∀ (ss ks : List ByteArray), (uniU ks ss).length ≤ ks.length + ss.length := by
   intro ss
   induction ss with
   | nil => intro ks; simp [uniU]
   | cons s r ih2 =>
    intro ks
    have h1 := ih2 (addU ks s)
    have h2 : (addU ks s).length ≤ ks.length + 1 := by rw [addU]; split <;> simp
    show (uniU (addU ks s) r).length ≤ _
    simp only [List.length_cons]; omega
  have pl : ∀ (p : Bl) (b : Bool) (g : List ByteArray) (c : Bool), p.flat.length ≤ n → z_bA ks b p = some (g, c) → g.length ≤ p.flat.length := by
   intro p b g c hp hh
   have := ih p hp ks b true _ _ (z_cj hh).1
   simp at this; omega
  cases hn : z_aR t with
  | false =>
   cases t with
   | nil => simp only [z_al, Option.some.injEq, Prod.mk.injEq] at h; rw [← h.1]; omega
   | plain l r => cases hn
   | one l p e r => cases hn
   | two l p m q e r => cases hn
  | true =>
   rw [z_dV ks both live t hn] at h
   split at h
   ·have hg : ∀ g c', z_cu ks both t = some (g, c') → g.length ≤ z_ai t := by
     intro g c' hh
     cases t with
     | nil => cases hn
     | plain l r =>
      simp only [z_cu, Option.some.injEq, Prod.mk.injEq] at hh
      rw [← hh.1]; split <;> simp [z_ai]
     | one l p e r =>
      simp only [z_cu] at hh
      split at hh
      ·cases hh
      ·simp only [Option.some.injEq, Prod.mk.injEq] at hh; rw [← hh.1]; simp
     | two l p m q e r =>
      have hpn : p.flat.length ≤ n := by simp [Bl.flat] at ht; omega
      have hqn : q.flat.length ≤ n := by simp [Bl.flat] at ht; omega
      simp only [z_cu] at hh
      split at hh
      ·cases hh
      ·rename_i g1 c1 h1
       split at hh
       ·cases hh
       ·rename_i g2 c2 h2
        have l1 := pl p _ g1 c1 hpn h1
        have l2 := pl q _ g2 c2 hqn h2
        have l3 := z_lR g1 g2
        simp only [z_ai]
        split at hh
        ·split at hh
         ·cases hh
         ·simp only [Option.some.injEq, Prod.mk.injEq] at hh; rw [← hh.1]; simp; omega
        ·split at hh
         ·simp only [Option.some.injEq, Prod.mk.injEq] at hh; rw [← hh.1]; omega
         ·split at hh
          ·simp only [Option.some.injEq, Prod.mk.injEq] at hh; rw [← hh.1]; omega
          ·simp only [Option.some.injEq, Prod.mk.injEq] at hh; rw [← hh.1]; omega
    cases hr : z_cu ks both t with
    | none => rw [hr] at h; cases h
    | some x =>
     obtain ⟨g, c'⟩ := x
     rw [hr] at h
     have h1 := hg g c' hr
     have h2 := z_b7 t
     have hpos : 1 ≤ z_ai t := by cases t <;> simp [z_ai, z_aR] at hn ⊢
     have h3 := ih (z_aO t) (by omega) _ _ _ _ _ h
     have h4 := ul g ks
     omega
   ·cases h
end
section
open Go.RowKit
def cutAt (s : ByteArray) (a : Nat) : Nat → Nat → Nat → List ByteArray
 | 0, _, fr => [s.extract fr s.size]
 | n + 1, pos, fr => if (s.get! pos).toNat = a then s.extract fr pos :: cutAt s a n (pos + 1) (pos + 1) else cutAt s a n (pos + 1) fr
def cutS (s : ByteArray) (a : Nat) : List ByteArray := cutAt s a s.size 0 0
def z_gy (ss : List ByteArray) : List ByteArray := ss.filter (fun x => decide (x.size ≠ 0))
theorem z_et (s : ByteArray) (p : Nat) : (s.extract p p).size = 0 := by rw [ByteArray.size_extract]; omega
theorem z_cV {x : ByteArray} {r : List ByteArray} (h : x.size = 0) : z_gy (x :: r) = z_gy r := by rw [z_gy, List.filter_cons_of_neg (by simp only [decide_eq_true_eq]; omega)]; rfl
theorem z_c3 {x : ByteArray} {r : List ByteArray} (h : x.size ≠ 0) : z_gy (x :: r) = x :: z_gy r := by rw [z_gy, List.filter_cons_of_pos (by simp only [decide_eq_true_eq]; omega)]; rfl
theorem z_fw (s : ByteArray) : ∀ (n pos : Nat), pos + n = s.size →
  z_gy (cutAt s 32 n pos pos) = cutSp s n pos (-1) ∧ ∀ fr, fr < pos → z_gy (cutAt s 32 n pos fr) = cutSp s n pos fr
 | 0, pos, h => by
  have hp : pos = s.size := by omega
  subst hp
  refine ⟨?_, fun fr hf => ?_⟩
  ·rw [cutAt, cutSp, if_neg (by omega), z_cV (z_et _ _)]; rfl
  ·rw [cutAt, cutSp, if_pos (by omega), z_c3 (by rw [ByteArray.size_extract]; omega)]; rfl
 | n + 1, pos, h => by
  obtain ⟨h1, h2⟩ := z_fw s n (pos + 1) (by omega)
  by_cases hb : s.get! pos = 32
  ·have hb' : (s.get! pos).toNat = 32 := by rw [hb]; rfl
   refine ⟨?_, fun fr hf => ?_⟩
   ·rw [cutAt, if_pos hb', cutSp, if_pos hb, if_neg (by omega), z_cV (z_et _ _), h1]
   ·rw [cutAt, if_pos hb', cutSp, if_pos hb, if_pos (by omega), z_c3 (by rw [ByteArray.size_extract]; omega), h1]; rfl
  ·have hb' : ¬ (s.get! pos).toNat = 32 := fun e => hb (UInt8.toNat.inj e)
   refine ⟨?_, fun fr hf => ?_⟩
   ·rw [cutAt, if_neg hb', cutSp, if_neg hb, if_pos (by omega), h2 pos (by omega)]
   ·rw [cutAt, if_neg hb', cutSp, if_neg hb, if_neg (by omega), h2 fr (by omega)]
theorem z_kY (s : ByteArray) : z_gy (cutS s 32) = wordsW s := (z_fw s s.size 0 (by omega)).1
theorem z_eW (s : ByteArray) (a : Nat) : ∀ (n pos fr : Nat), (cutAt s a n pos fr).length ≤ n + 1
 | 0, _, _ => by simp [cutAt]
 | n + 1, pos, fr => by
  rw [cutAt]
  split
  ·have := z_eW s a n (pos + 1) (pos + 1); simp; omega
  ·have := z_eW s a n (pos + 1) fr; omega
end
section
open Go.RowKit
def mkB (l : List UInt8) : ByteArray := ⟨l.toArray⟩
def wl : List UInt8 → List UInt8 → List ByteArray
 | cur, [] => if cur = [] then [] else [mkB cur]
 | cur, b :: r => if b = 32 then (if cur = [] then wl [] r else mkB cur :: wl [] r) else wl (cur ++ [b]) r
theorem z_jZ (y : List UInt8) : ∀ (x cur : List UInt8), wl cur (x ++ 32 :: y) = wl cur x ++ wl [] y
 | [], cur => by
  simp only [List.nil_append, wl, if_true]
  split <;> rfl
 | b :: r, cur => by
  simp only [List.cons_append, wl]
  split
  ·split
   ·exact z_jZ y r []
   ·rw [z_jZ y r []]; rfl
  ·exact z_jZ y r _
theorem z_gi (s : ByteArray) (i j : Nat) : s.extract i j = mkB ((s.data.toList.drop i).take (j - i)) := by
 apply ByteArray.ext
 rw [ByteArray.data_extract]
 apply Array.toList_inj.1
 simp [mkB]
theorem z_lG (l : List UInt8) (i p : Nat) (h : p < l.length) (hi : i ≤ p) : (l.drop i).take (p + 1 - i) = (l.drop i).take (p - i) ++ [l[p]] := by
 have e : p + 1 - i = (p - i) + 1 := by omega
 rw [e, List.take_succ_eq_append_getElem (by simp; omega)]
 simp [show i + (p - i) = p by omega]
theorem z_kk (s : ByteArray) : ∀ (n pos : Nat), pos + n = s.size →
  cutSp s n pos (-1) = wl [] (s.data.toList.drop pos) ∧ ∀ st, st < pos → cutSp s n pos (st : Nat) = wl ((s.data.toList.drop st).take (pos - st)) (s.data.toList.drop pos)
 | 0, pos, h => by
  have hl : s.data.toList.length = s.size := by simp
  have hd : s.data.toList.drop pos = [] := List.drop_eq_nil_of_le (by omega)
  refine ⟨?_, fun st hs => ?_⟩
  ·rw [cutSp, if_neg (by omega), hd]; rfl
  ·rw [cutSp, if_pos (by omega), hd, wl, if_neg, Int.toNat_natCast, z_gi, show s.size = pos by omega]
   intro e
   have := congrArg List.length e
   simp at this; omega
 | n + 1, pos, h => by
  obtain ⟨h1, h2⟩ := z_kk s n (pos + 1) (by omega)
  have hp : pos < s.size := by omega
  have hl : s.data.toList.length = s.size := by simp
  have hg : s.get! pos = s[pos]'hp := get_at s pos hp
  have hg2 : s[pos]'hp = s.data.toList[pos]'(by omega) := rfl
  have hd : s.data.toList.drop pos = s.data.toList[pos]'(by omega) :: s.data.toList.drop (pos + 1) := List.drop_eq_getElem_cons (by omega)
  rw [hg2] at hg
  by_cases hb : s.get! pos = 32
  ·have hb' := hg.symm.trans hb
   refine ⟨?_, fun st hs => ?_⟩
   ·rw [cutSp, if_pos hb, if_neg (by omega), h1, hd, wl, if_pos hb', if_pos rfl]
   ·rw [cutSp, if_pos hb, if_pos (by omega), h1, hd, wl, if_pos hb', if_neg, Int.toNat_natCast, z_gi]
    intro e
    have := congrArg List.length e
    simp at this; omega
  ·have hb' : ¬ s.data.toList[pos]'(by omega) = 32 := fun e => hb (hg.trans e)
   refine ⟨?_, fun st hs => ?_⟩
   ·rw [cutSp, if_neg hb, if_pos (by omega), h2 pos (by omega), hd, wl, if_neg hb', show pos + 1 - pos = 1 by omega]
    rfl
   ·rw [cutSp, if_neg hb, if_neg (by omega), h2 st (by omega), hd, wl, if_neg hb', z_lG _ _ _ (by omega) (by omega)]
theorem z_l4 (s : ByteArray) : wordsW s = wl [] s.data.toList := (z_kk s s.size 0 (by omega)).1
def z_fF (l : List UInt8) : List ByteArray := wl [] l
theorem z_gf (x y : List UInt8) : z_fF (x ++ 32 :: y) = z_fF x ++ z_fF y := z_jZ y x []
theorem z_dd (s : ByteArray) : wordsW s = z_fF s.data.toList := z_l4 s
end
end Go.Proofs.YtlbjjbolbopfmaaGreatDoor
