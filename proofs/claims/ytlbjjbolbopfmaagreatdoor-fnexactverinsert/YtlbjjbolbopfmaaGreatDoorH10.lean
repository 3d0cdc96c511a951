import Derived.Test.YtlbjjbolbopfmaaGreatDoorH09
import Derived.Test.YtlbjjbolbopfmaaGreatDoorH00
import Derived.Laws.AppendOwn
import Derived.Deep.AppendLies
import Derived.Deep.LoopGhost
import Derived.BigQuiet
import Derived.Deep.QuietTactic
namespace Go.Proofs.YtlbjjbolbopfmaaGreatDoor
set_option maxHeartbeats 2000000
set_option maxRecDepth 1000000
set_option linter.unusedVariables false
section
theorem nameB_size {s : ByteArray} (h : nameB s = true) : s.size ≤ 8 := by
 unfold nameB nameL at h
 simp only [Bool.and_eq_true, decide_eq_true_eq] at h
 have := h.2.2
 simpa using this
theorem testW_size {s : ByteArray} (h : testW s = true) : s.size ≤ 8 := by
 have e : s.toList.length = s.size := by rw [toList_data]; simp
 unfold testW at h
 simp only [Bool.or_eq_true, beq_iff_eq] at h
 rcases h with h | h | h | h <;> (rw [h] at e; simp at e; omega)
theorem letN_size {s : ByteArray} (h : 1 ≤ letN s) : s.size ≤ 8 := by
 have e : s.toList.length = s.size := by rw [toList_data]; simp
 unfold letN at h
 split at h
 ·rename_i h1
  rw [beq_iff_eq] at h1; rw [h1] at e; simp at e; omega
 ·split at h
  ·rename_i h1
   simp only [Bool.or_eq_true, beq_iff_eq] at h1
   rcases h1 with h1 | h1 | h1 <;> (rw [h1] at e; simp at e; omega)
  ·omega
structure GoodD (k : Int) (d : Bd) : Prop where
 args : ∀ s ∈ d.args, operB s = true
 args3 : d.args.length ≤ 3
 to : d.to = eS ∨ nameB d.to = true
 name8 : d.name.size ≤ 8
 undo8 : d.undo.size ≤ 8
 opens : opensK k = true → d.to = eS ∧ d.undo = eS
 bare : k = 9 ∨ closesK k = true → d.to = eS ∧ d.name = eS ∧ d.args = [] ∧ d.undo = eS
 patch : k = 14 → d.args = []
 branch : k = 6 ∨ k = 8 → d.args.length = 2
 names : k = 1 → ∀ s ∈ d.args, nameB s = true
 once : k = 1 → d.args.Nodup
theorem nodup_of_rep {ss : List ByteArray} (h : repTo ss ss.length = false) : ss.Nodup := by
 rw [List.nodup_iff_pairwise_ne, List.pairwise_iff_getElem]
 intro i j hi hj hij e
 have := repTo_yes ss j ss.length hj hj (by
  rw [hasB_iff, ← e]
  exact List.mem_take_iff_getElem.2 ⟨i, by omega, rfl⟩)
 rw [this] at h; cases h
theorem eS_size : eS.size ≤ 8 := by decide
theorem allB_mem {p : ByteArray → Bool} {ss : List ByteArray} (h : allB p ss = true) : ∀ s ∈ ss, p s = true := by
 unfold allB at h
 rw [List.all_eq_true] at h
 exact h
theorem name_oper {s : ByteArray} (h : nameB s = true) : operB s = true := by rw [operB, h]; rfl
theorem good_of {k : Int} {ws : List ByteArray} {d : Bd} (h : readP k ws = some d) : GoodD k d := by
 have hnext : ∀ {ws : List ByteArray} {d : Bd}, pNext ws = some d → (∀ s ∈ d.args, operB s = true) ∧ d.args.length ≤ 3 ∧ d.to = eS ∧ d.name = eS ∧ d.undo = eS := by
  intro ws d hx
  rw [pNext.eq_def] at hx
  split at hx
  ·rename_i hh
   cases hx
   exact ⟨allB_mem hh.2, hh.1, rfl, rfl, rfl⟩
  ·cases hx
 have hdo : ∀ {vs : List ByteArray} {u : ByteArray} {d : Bd}, u.size ≤ 8 → pDo0 vs u = some d → (∀ s ∈ d.args, operB s = true) ∧ d.args.length ≤ 3 ∧ nameB d.to = true ∧ d.name.size ≤ 8 ∧ d.undo.size ≤ 8 := by
  intro vs u d hu hx
  rw [pDo0.eq_def] at hx
  split at hx
  ·split at hx
   ·rename_i hh
    cases hx
    exact ⟨allB_mem hh.2.2.2, hh.2.2.1, hh.1, nameB_size hh.2.1, hu⟩
   ·cases hx
  ·cases hx
 rw [readP] at h
 split at h
 ·rename_i hk; subst hk
  rw [pHead.eq_def] at h
  split at h
  ·cases h
  ·split at h
   ·rename_i hh
    cases h
    have h1 := hh.2.1
    rw [allB_cons, Bool.and_eq_true] at h1
    exact ⟨fun s hs => name_oper (allB_mem h1.2 s hs), hh.1, .inl rfl, nameB_size h1.1, eS_size, fun hx => absurd hx (by decide), fun hx => by rcases hx with hx | hx <;> simp [closesK] at hx, fun hx => absurd hx (by decide), fun hx => absurd hx (by decide), fun _ => allB_mem h1.2, fun _ => nodup_of_rep hh.2.2⟩
   ·cases h
 split at h
 ·rename_i hk; subst hk
  rw [pLet.eq_def] at h
  split at h
  ·split at h
   ·rename_i a b c r hh
    cases h
    have h3 := hh.2.2
    have h4 : letN b ≤ 2 := by unfold letN; split <;> (try split) <;> decide
    exact ⟨allB_mem hh.2.1, by simp; omega, .inr hh.1, letN_size (s := b) (by omega), eS_size, fun hx => absurd hx (by decide), fun hx => by rcases hx with hx | hx <;> simp [closesK] at hx, fun hx => absurd hx (by decide), fun hx => absurd hx (by decide), fun hx => absurd hx (by decide), fun hx => absurd hx (by decide)⟩
   ·cases h
  ·cases h
 split at h
 ·rename_i hk; subst hk
  have fin : ∀ {vs : List ByteArray} {u : ByteArray}, u.size ≤ 8 → pDo0 vs u = some d → GoodD 3 d := by
   intro vs u hu hx
   obtain ⟨h1, h2, h3, h4, h5⟩ := hdo hu hx
   exact ⟨h1, h2, .inr h3, h4, h5, fun hx => absurd hx (by decide), fun hx => by rcases hx with hx | hx <;> simp [closesK] at hx, fun hx => absurd hx (by decide), fun hx => absurd hx (by decide), fun hx => absurd hx (by decide), fun hx => absurd hx (by decide)⟩
  rw [pDo.eq_def] at h
  split at h
  ·split at h
   ·rename_i hh; exact fin (nameB_size hh) h
   ·cases h
  ·exact fin eS_size h
 split at h
 ·rename_i hk; subst hk
  rw [pGet.eq_def] at h
  split at h
  ·split at h
   ·rename_i hh
    cases h
    exact ⟨by simp, by simp, .inr hh.1, nameB_size hh.2, eS_size, fun hx => absurd hx (by decide), fun hx => by rcases hx with hx | hx <;> simp [closesK] at hx, fun hx => absurd hx (by decide), fun hx => absurd hx (by decide), fun hx => absurd hx (by decide), fun hx => absurd hx (by decide)⟩
   ·cases h
  ·split at h
   ·rename_i hh
    cases h
    exact ⟨by simpa using hh.2.2.2, by simp, .inr hh.1, nameB_size hh.2.1, eS_size, fun hx => absurd hx (by decide), fun hx => by rcases hx with hx | hx <;> simp [closesK] at hx, fun hx => absurd hx (by decide), fun hx => absurd hx (by decide), fun hx => absurd hx (by decide), fun hx => absurd hx (by decide)⟩
   ·cases h
  ·cases h
 split at h
 ·rename_i hk
  rw [pTest.eq_def] at h
  split at h
  ·split at h
   ·rename_i hh
    cases h
    refine ⟨by simpa using ⟨hh.1, hh.2.2⟩, by simp, .inl rfl, testW_size hh.2.1, eS_size, fun _ => ⟨rfl, rfl⟩, fun hx => ?_, fun hx => ?_, fun _ => rfl, fun hx => ?_, fun hx => by omega⟩
    ·rcases hk with rfl | rfl <;> (rcases hx with hx | hx <;> simp [closesK] at hx)
    ·omega
    ·omega
   ·cases h
  ·cases h
 split at h
 ·rename_i hk
  rw [pNothing.eq_def] at h
  split at h
  ·cases h
   exact ⟨by simp, by simp, .inl rfl, eS_size, eS_size, fun _ => ⟨rfl, rfl⟩, fun _ => ⟨rfl, rfl, rfl, rfl⟩, fun _ => rfl, fun hx => by omega, by simp, fun hx => by omega⟩
  ·cases h
 split at h
 ·rename_i hk
  rw [pOperand.eq_def] at h
  split at h
  ·obtain ⟨h1, h2, h3, h4, h5⟩ := hnext h
   refine ⟨h1, h2, .inl h3, by rw [h4]; exact eS_size, by rw [h5]; exact eS_size, fun _ => ⟨h3, h5⟩, fun hx => ?_, fun hx => by omega, fun hx => by omega, fun hx => by omega, fun hx => by omega⟩
   rcases hk with rfl | rfl | rfl <;> (rcases hx with hx | hx <;> simp [closesK] at hx)
  ·cases h
 split at h
 ·rename_i hk; subst hk
  rw [pPatch.eq_def] at h
  split at h
  ·split at h
   ·rename_i hh
    cases h
    exact ⟨by simp, by simp, .inl rfl, nameB_size hh, eS_size, fun _ => ⟨rfl, rfl⟩, fun hx => by rcases hx with hx | hx <;> simp [closesK] at hx, fun _ => rfl, fun hx => absurd hx (by decide), fun hx => absurd hx (by decide), fun hx => absurd hx (by decide)⟩
   ·cases h
  ·cases h
 split at h
 ·rename_i hk; subst hk
  obtain ⟨h1, h2, h3, h4, h5⟩ := hnext h
  exact ⟨h1, h2, .inl h3, by rw [h4]; exact eS_size, by rw [h5]; exact eS_size, fun hx => absurd hx (by decide), fun hx => by rcases hx with hx | hx <;> simp [closesK] at hx, fun hx => absurd hx (by decide), fun hx => absurd hx (by decide), fun hx => absurd hx (by decide), fun hx => absurd hx (by decide)⟩
 ·cases h
end
section
open Go.RowKit
section
variable {w w' : World} {base size n cap g : Nat} {e : TypeId} {xs : List Value} {v : Value}
theorem own_take (h : w.ownsRow base e size (.slice (some ⟨g, 0, none⟩) n cap) n xs) (k : Nat) (hk : k ≤ n) : w.ownsRow base e size (.slice (some ⟨g, 0, none⟩) k cap) k (xs.take (k * size)) := by
 have hm : k * size ≤ n * size := Nat.mul_le_mul_right _ hk
 refine ⟨?_, ?_⟩
 ·rw [List.length_take, h.1]; omega
 ·rcases h.2 with ⟨hv, _⟩ | ⟨g', cap', cur, hv, hb, hg, hn, hc, hs, ht⟩
  ·cases hv
  ·cases hv
   refine .inr ⟨g, cap, cur, rfl, hb, hg, by omega, hc, hs, ?_⟩
   rw [← ht, List.take_take, Nat.min_eq_left hm]
theorem own_set (h : w.ownsRow base e size (.slice (some ⟨g, 0, none⟩) n cap) n xs) (j : Nat) (u : Value) : (w.setCell ⟨g, j, none⟩ u).ownsRow base e size (.slice (some ⟨g, 0, none⟩) n cap) n (xs.set j u) := by
 refine ⟨by rw [List.length_set]; exact h.1, ?_⟩
 rcases h.2 with ⟨hv, _⟩ | ⟨g', cap', cur, hv, hb, hg, hn, hc, hs, ht⟩
 ·cases hv
 ·cases hv
  refine .inr ⟨g, cap, cur.setIfInBounds j u, rfl, hb, heap_setCell_same w g j cur e u hg, hn, hc, by simp [hs], ?_⟩
  rw [Array.toList_setIfInBounds, List.take_set, ht]
theorem own_below (h : w.ownsRow base e size v n xs) (hb : Below w.heap.size w w') : w'.ownsRow base e size v n xs := by
 refine ⟨h.1, ?_⟩
 rcases h.2 with hn | ⟨g', cap', cur, hv, h1, hg, rest⟩
 ·exact .inl hn
 ·refine .inr ⟨g', cap', cur, hv, h1, ?_, rest⟩
  rw [hb.block g' (Array.getElem?_eq_some_iff.1 hg).1]; exact hg
theorem own_mono {base' : Nat} (h : w.ownsRow base e size v n xs) (hb : base' ≤ base) : w.ownsRow base' e size v n xs := by
 refine ⟨h.1, ?_⟩
 rcases h.2 with hn | ⟨g', cap', cur, hv, h1, rest⟩
 ·exact .inl hn
 ·exact .inr ⟨g', cap', cur, hv, Nat.le_trans hb h1, rest⟩
theorem grown_below {row : Option Nat} (h : Below w.heap.size w w') : w.grownBy w' row := ⟨h.os, h.tape, h.output, h.size, fun k hk _ => h.block k hk⟩
theorem grown_refl {row : Option Nat} : w.grownBy w row := grown_below (Below.refl _ _)
theorem grown_trans {w'' : World} {row row' : Option Nat} (h : w.grownBy w' row) (h' : w'.grownBy w'' row') (hr : row' = row ∨ ∀ k, row' = some k → w.heap.size ≤ k) : w.grownBy w'' row :=
 ⟨h'.os.trans h.os, h'.tape.trans h.tape, h'.output.trans h.output, Nat.le_trans h.size h'.size, fun k hk hne => (h'.block k (Nat.lt_of_lt_of_le hk h.size) (fun e => by
  rcases hr with hr | hr
  ·exact hne (e.trans hr)
  ·have := hr k e.symm; omega)).trans (h.block k hk hne)⟩
theorem grown_setCell (g j : Nat) (u : Value) : w.grownBy (w.setCell ⟨g, j, none⟩ u) (some g) :=
 ⟨rfl, rfl, rfl, by simp [World.setCell], fun k _ hne => Below.heap_setCell w _ u k (fun e => hne (by rw [e]))⟩
theorem below_grown {row : Option Nat} (h : w.grownBy w' row) (hb : base ≤ w.heap.size) (hr : ∀ k, row = some k → base ≤ k) : Below base w w' := (Below.refl _ _).grown h hb hr
end
theorem own_form {w : World} {base n size : Nat} {e : TypeId} {v : Value} {xs : List Value} (h : w.ownsRow base e size v n xs) : ∃ ao cap, v = .slice ao n cap ∧ n ≤ cap := by
 rcases h.2 with ⟨rfl, rfl⟩ | ⟨g, cap, cur, rfl, _, _, hn, _⟩
 ·exact ⟨none, 0, rfl, Nat.le_refl _⟩
 ·exact ⟨_, _, rfl, hn⟩
end
section
open Go.RowKit
theorem Tryz.infoOpn : (Tryz.prog.info? 174).map (fun i => (i.zero, i.size, i.bytes)) = some (some (.agg #[.int .i64 0, .bool false]), 2, 16) := by kernel_rfl
def opnCells (os : List Opn) : List Value := os.flatMap fun o => [.int .i64 o.1, .bool o.2]
theorem opnCells_append (a b : List Opn) : opnCells (a ++ b) = opnCells a ++ opnCells b := by simp [opnCells]
theorem opnCells_len : ∀ os : List Opn, (opnCells os).length = os.length * 2
 | [] => rfl
 | o :: r => by
  have := opnCells_len r
  simp only [opnCells, List.flatMap_cons, List.length_append, List.length_cons, List.length_nil] at this ⊢
  omega
theorem opn_cell (os : List Opn) (o : Opn) : (opnCells (os ++ [o]))[os.length * 2]? = some (.int .i64 o.1) ∧ (opnCells (os ++ [o]))[os.length * 2 + 1]? = some (.bool o.2) := by
 rw [opnCells_append]
 constructor
 ·rw [List.getElem?_append_right (by rw [opnCells_len]; omega), opnCells_len, Nat.sub_self]; rfl
 ·rw [List.getElem?_append_right (by rw [opnCells_len]; omega), opnCells_len, Nat.add_sub_cancel_left]; rfl
theorem opn_set (os : List Opn) (o : Opn) (b : Bool) : (opnCells (os ++ [o])).set (os.length * 2 + 1) (.bool b) = opnCells (os ++ [(o.1, b)]) := by
 rw [opnCells_append, opnCells_append, List.set_append_right _ _ (by rw [opnCells_len]; omega), opnCells_len, Nat.add_sub_cancel_left]; rfl
theorem opn_take (os : List Opn) (o : Opn) : (opnCells (os ++ [o])).take (os.length * 2) = opnCells os := by
 rw [opnCells_append, List.take_append_of_le_length (by rw [opnCells_len]; omega), List.take_of_length_le (by rw [opnCells_len]; omega)]
def StandEnd (base : Nat) (w : World) (v : Value) (r : List Opn × Bool) (e : Ending) (w' : World) : Prop :=
 ∃ v', e = .returned (.tuple #[v', .bool r.2]) ∧ w.grownBy w' v.ownBlock ∧ w'.ownsRow base 174 2 v' r.1.length (opnCells r.1)
theorem cells2_new (w : World) (a b : Value) (t : TypeId) : ∀ j u, [a, b][j]? = some u → (w.alloc (.cells #[a, b] t)).cell? ((⟨w.heap.size, 0, none⟩ : Addr).add j) = some u := by
 intro j u hj
 match j, hj with
 | 0, hj => simp at hj; subst hj; simp [Addr.add]
 | 1, hj => simp at hj; subst hj; simp [Addr.add]
 | j + 2, hj => simp at hj
theorem standLine_bad (os : List Opn) (v : Value) (k : Int) (first : Bool) (base : Nat) (w : World) (ho : w.ownsRow base 174 2 v os.length (opnCells os)) (hf : ((k == 1) != first) = true) :
  Calls Tryz.prog 92 #[v, .int .i64 k, .bool first] w fun e w' => StandEnd base w v (standL os k first) e w' := by
 have HN : Hid (standL os k first = (os, false)) := by show _ = _; rw [standL, if_pos hf]
 have HO : Hid (w.ownsRow base 174 2 v os.length (opnCells os)) := ho
 have hq : (k == 1) = !first := by cases h1 : (k == 1) <;> cases first <;> simp_all
 clear ho hf
 cases first
 all_goals
  simp only [Bool.not_true, Bool.not_false] at hq
  go_enter Tryz.func92, Tryz.ntmps92
  go_wp2
  go_ret2
  exact ⟨_, (by rw [HN.out]; rfl), grown_refl, by rw [HN.out]; exact HO.out⟩
theorem standLine_plain (os : List Opn) (v : Value) (k : Int) (first : Bool) (base : Nat) (w : World) (hb : base ≤ w.heap.size) (hl : os.length ≤ 1000) (ho : w.ownsRow base 174 2 v os.length (opnCells os)) (hc : closesK k = false) :
  Calls Tryz.prog 92 #[v, .int .i64 k, .bool first] w fun e w' => StandEnd base w v (standL os k first) e w' := by
 obtain ⟨i0, hi0, hz0, hz1, hz2⟩ := info_parts Tryz.infoOpn
 have HO : Hid (w.ownsRow base 174 2 v os.length (opnCells os)) := ho
 clear ho
 by_cases hf : ((k == 1) != first) = true
 ·exact standLine_bad os v k first base w HO.out hf
 ·have hf0 : ((k == 1) != first) = false := by simpa using hf
  clear hf
  cases hk : opensK k with
  | true =>
   have HN : Hid (standL os k first = (os ++ [(k, false)], true)) := by show _ = _; rw [standL, hf0, hk]; rfl
   have hq : (k == 1) = first := by cases h1 : (k == 1) <;> cases first <;> simp_all
   clear hf0
   cases first
   all_goals
    go_enter Tryz.func92, Tryz.ntmps92
    go_wp2_with (first
     | (go_at_call 84; refine (opens_any _ _).mono ?_; rintro e w ⟨rfl, rfl⟩; rw [hk])
     | (at_builtin; refine wpList_append_own _ rfl _ _ 128 rfl base 174 i0 _ 2 16 Tryz.underlying128 hi0 hz0 hz1 hz2 rfl (by decide) _ _ _ rfl (HO.out.alloc _) ⟨w.heap.size, 0, none⟩ 1 1 [.int .i64 k, .bool false] rfl rfl (cells2_new _ _ _ _) (fun u hu => by simp at hu; rcases hu with rfl | rfl <;> rfl) (by unfold maxLen; omega) (by omega) (by simp; omega) ?_; intro v' w3 hown' hgrow3 hnil3; have hb3 : w.grownBy w3 v.ownBlock := grown_trans (grown_below ((Below.refl _ _).alloc (Nat.le_refl _) _)) hgrow3 (.inl (by rfl)); have X : Aside (w3.ownsRow base 174 2 v' (os ++ [(k, false)]).length (opnCells (os ++ [(k, false)])) ∧ w.grownBy w3 v.ownBlock) := ⟨by rw [opnCells_append, List.length_append]; exact hown', hb3⟩; clear hown' hgrow3 hnil3 hb3))
    go_ret2
    exact ⟨_, (by rw [HN.out]; rfl), X.out.2, by rw [HN.out]; exact X.out.1⟩
  | false =>
   have HN : Hid (standL os k first = (os, true)) := by show _ = _; rw [standL, hf0, hk, hc]; rfl
   have hq : (k == 1) = first := by cases h1 : (k == 1) <;> cases first <;> simp_all
   clear hf0
   cases first
   all_goals
    go_enter Tryz.func92, Tryz.ntmps92
    go_wp2_with (first
     | (go_at_call 84; refine (opens_any _ _).mono ?_; rintro e w ⟨rfl, rfl⟩; rw [hk])
     | (go_at_call 74; refine (closes_any _ _).mono ?_; rintro e w ⟨rfl, rfl⟩; rw [hc]))
    go_ret2
    exact ⟨_, (by rw [HN.out]; rfl), grown_refl, by rw [HN.out]; exact HO.out⟩
end
section
open Go.RowKit
theorem closes_not1 {k : Int} (h : closesK k = true) : (k == 1) = false := by
 rw [closesK_iff] at h
 rcases h with rfl | rfl | rfl <;> rfl
theorem standLine_empty (v : Value) (k : Int) (base : Nat) (w : World) (ho : w.ownsRow base 174 2 v 0 []) (hc : closesK k = true) :
  Calls Tryz.prog 92 #[v, .int .i64 k, .bool false] w fun e w' => StandEnd base w v (standL [] k false) e w' := by
 have hq := closes_not1 hc
 have hk := closes_opens hc
 have HN : Hid (standL [] k false = ([], false)) := by show _ = _; rw [standL, hq, hk, hc]; rfl
 have HO : Hid (w.ownsRow base 174 2 v 0 []) := ho
 rcases ho.2 with ⟨rfl, _⟩ | ⟨g, cap, cur, rfl, _⟩
 all_goals
  clear ho
  go_enter Tryz.func92, Tryz.ntmps92
  go_wp2_with (first
   | (go_at_call 84; refine (opens_any _ _).mono ?_; rintro e w ⟨rfl, rfl⟩; rw [hk])
   | (go_at_call 74; refine (closes_any _ _).mono ?_; rintro e w ⟨rfl, rfl⟩; rw [hc]))
  go_ret2
  exact ⟨_, (by rw [HN.out]; rfl), grown_refl, by rw [HN.out]; exact HO.out⟩
theorem opn_last {w : World} {base : Nat} {v : Value} {os : List Opn} {x : Int} {t : Bool} (ho : w.ownsRow base 174 2 v (os ++ [(x, t)]).length (opnCells (os ++ [(x, t)]))) :
  ∃ g cap, v = .slice (some ⟨g, 0, none⟩) (os.length + 1) cap ∧ os.length + 1 ≤ cap ∧ base ≤ g ∧ g < w.heap.size ∧ w.cell? ⟨g, os.length * 2, none⟩ = some (.int .i64 x) ∧ w.cell? ⟨g, os.length * 2 + 1, none⟩ = some (.bool t) ∧ w.frozen? ⟨g, os.length * 2 + 1, none⟩ = false ∧
   w.ownsRow base 174 2 (.slice (some ⟨g, 0, none⟩) (os.length + 1) cap) (os.length + 1) (opnCells (os ++ [(x, t)])) := by
 have hlen : (os ++ [(x, t)]).length = os.length + 1 := by simp
 rw [hlen] at ho
 have h0 := ho
 rcases ho.2 with ⟨_, h⟩ | ⟨g, cap, cur, rfl, hb, hg, hn, hm, hs, ht⟩
 ·omega
 ·obtain ⟨e1, e2⟩ := opn_cell os (x, t)
  have hl2 : (opnCells (os ++ [(x, t)])).length = os.length * 2 + 2 := by rw [opnCells_len, hlen]; omega
  refine ⟨g, cap, rfl, hn, hb, (h0.lt g rfl).2, ?_, ?_, frozen_of_row w g _ cur _ hg, h0⟩
  ·rw [h0.cellAt _ (by omega)]; exact e1
  ·rw [h0.cellAt _ (by omega)]; exact e2
theorem stand_turned {w : World} {base g cap : Nat} {os : List Opn} {x : Int} {t : Bool} (ho : w.ownsRow base 174 2 (.slice (some ⟨g, 0, none⟩) (os.length + 1) cap) (os.length + 1) (opnCells (os ++ [(x, t)]))) (hg : base ≤ g) :
  w.grownBy (w.setCell ⟨g, os.length * 2 + 1, none⟩ (.bool true)) (some g) ∧ (w.setCell ⟨g, os.length * 2 + 1, none⟩ (.bool true)).ownsRow base 174 2 (.slice (some ⟨g, 0, none⟩) (os.length + 1) cap) (os ++ [(x, true)]).length (opnCells (os ++ [(x, true)])) := by
 refine ⟨grown_setCell _ _ _, ?_⟩
 have h := own_set ho (os.length * 2 + 1) (.bool true)
 rw [opn_set] at h
 rw [show (os ++ [(x, true)]).length = os.length + 1 by simp]
 exact h
theorem standL_close (os : List Opn) (x : Int) (t : Bool) (k : Int) (hc : closesK k = true) : standL (os ++ [(x, t)]) k false = if k = 7 then (os ++ [(x, true)], choiceK x && !t) else if k = 10 then (os ++ [(x, true)], (x == 9) && !t) else (os, (x != 9) || t) := by
 have hq := closes_not1 hc
 have hk := closes_opens hc
 rw [standL, hq, hk, hc]
 simp
theorem standLine_7 (os : List Opn) (x : Int) (t : Bool) (g cap : Nat) (base : Nat) (w : World) (hn : os.length + 1 ≤ cap) (hl : cap ≤ 9223372036854775807) (hg : base ≤ g)
  (c0 : w.cell? ⟨g, os.length * 2, none⟩ = some (.int .i64 x)) (c1 : w.cell? ⟨g, os.length * 2 + 1, none⟩ = some (.bool t)) (f1 : w.frozen? ⟨g, os.length * 2 + 1, none⟩ = false) :
  Calls Tryz.prog 92 #[.slice (some ⟨g, 0, none⟩) (os.length + 1) cap, .int .i64 7, .bool false] w fun e w' => e = .returned (.tuple #[.slice (some ⟨g, 0, none⟩) (os.length + 1) cap, .bool (choiceK x && !t)]) ∧ w' = w.setCell ⟨g, os.length * 2 + 1, none⟩ (.bool true) := by
 cases hx : choiceK x <;> cases t
 all_goals
  go_enter Tryz.func92, Tryz.ntmps92
  go_wp2_with (first
   | (go_at_call 84; refine (opens_any _ _).mono ?_; rintro e w ⟨rfl, rfl⟩; rw [show opensK 7 = false from rfl])
   | (go_at_call 74; refine (closes_any _ _).mono ?_; rintro e w ⟨rfl, rfl⟩; rw [show closesK 7 = true from rfl])
   | (go_at_call 110; refine (isChoice_any _ _).mono ?_; rintro e w ⟨rfl, rfl⟩; rw [hx]))
  go_ret2
  exact ⟨rfl, rfl⟩
end
section
open Go.RowKit
theorem standLine_10 (os : List Opn) (x : Int) (t : Bool) (g cap : Nat) (base : Nat) (w : World) (hn : os.length + 1 ≤ cap) (hl : cap ≤ 9223372036854775807) (hg : base ≤ g)
  (c0 : w.cell? ⟨g, os.length * 2, none⟩ = some (.int .i64 x)) (c1 : w.cell? ⟨g, os.length * 2 + 1, none⟩ = some (.bool t)) (f1 : w.frozen? ⟨g, os.length * 2 + 1, none⟩ = false) :
  Calls Tryz.prog 92 #[.slice (some ⟨g, 0, none⟩) (os.length + 1) cap, .int .i64 10, .bool false] w fun e w' => e = .returned (.tuple #[.slice (some ⟨g, 0, none⟩) (os.length + 1) cap, .bool ((x == 9) && !t)]) ∧ w' = w.setCell ⟨g, os.length * 2 + 1, none⟩ (.bool true) := by
 cases hx : (x == 9) <;> cases t
 all_goals
  go_enter Tryz.func92, Tryz.ntmps92
  go_wp2_with (first
   | (go_at_call 84; refine (opens_any _ _).mono ?_; rintro e w ⟨rfl, rfl⟩; rw [show opensK 10 = false from rfl])
   | (go_at_call 74; refine (closes_any _ _).mono ?_; rintro e w ⟨rfl, rfl⟩; rw [show closesK 10 = true from rfl]))
  go_ret2
  exact ⟨rfl, rfl⟩
theorem standLine_11 (os : List Opn) (x : Int) (t : Bool) (g cap : Nat) (base : Nat) (w : World) (hn : os.length + 1 ≤ cap) (hl : cap ≤ 9223372036854775807) (hg : base ≤ g)
  (c0 : w.cell? ⟨g, os.length * 2, none⟩ = some (.int .i64 x)) (c1 : w.cell? ⟨g, os.length * 2 + 1, none⟩ = some (.bool t)) (f1 : w.frozen? ⟨g, os.length * 2 + 1, none⟩ = false) :
  Calls Tryz.prog 92 #[.slice (some ⟨g, 0, none⟩) (os.length + 1) cap, .int .i64 11, .bool false] w fun e w' => e = .returned (.tuple #[.slice (some ⟨g, 0, none⟩) os.length cap, .bool ((x != 9) || t)]) ∧ ∃ q, w' = w.drewN q := by
 by_cases hx : x = 9
 ·subst hx
  go_enter Tryz.func92, Tryz.ntmps92
  go_wp2_with (first
   | (go_at_call 84; refine (opens_any _ _).mono ?_; rintro e w ⟨rfl, rfl⟩; rw [show opensK 11 = false from rfl])
   | (go_at_call 74; refine (closes_any _ _).mono ?_; rintro e w ⟨rfl, rfl⟩; rw [show closesK 11 = true from rfl]))
  go_quiet (fail)
  go_wp2
  go_ret2
  exact ⟨rfl, _, rfl⟩
 ·have hq : (x == 9) = false := by simpa using hx
  have hq2 : (x != 9) = true := by simpa using hx
  clear hx
  go_enter Tryz.func92, Tryz.ntmps92
  go_wp2_with (first
   | (go_at_call 84; refine (opens_any _ _).mono ?_; rintro e w ⟨rfl, rfl⟩; rw [show opensK 11 = false from rfl])
   | (go_at_call 74; refine (closes_any _ _).mono ?_; rintro e w ⟨rfl, rfl⟩; rw [show closesK 11 = true from rfl]))
  go_quiet (fail)
  go_wp2
  go_ret2
  exact ⟨by rw [hq2]; rfl, _, rfl⟩
theorem standLine_any (os : List Opn) (v : Value) (k : Int) (first : Bool) (base : Nat) (w : World) (hb : base ≤ w.heap.size) (hl : os.length ≤ 1000) (ho : w.ownsRow base 174 2 v os.length (opnCells os)) :
  Calls Tryz.prog 92 #[v, .int .i64 k, .bool first] w fun e w' => StandEnd base w v (standL os k first) e w' := by
 by_cases hf : ((k == 1) != first) = true
 ·exact standLine_bad os v k first base w ho hf
 ·cases hc : closesK k with
  | false => exact standLine_plain os v k first base w hb hl ho hc
  | true =>
   have h1 := closes_not1 hc
   have : first = false := by rw [h1] at hf; cases first <;> simp_all
   subst this
   rcases List.eq_nil_or_concat os with rfl | ⟨os0, ⟨x, t⟩, rfl⟩
   ·exact standLine_empty v k base w ho hc
   ·rw [List.concat_eq_append] at ho hl ⊢
    obtain ⟨g, cap, rfl, hn, hg, hgw, c0, c1, f1, ho2⟩ := opn_last ho
    have hcap : cap ≤ 9223372036854775807 := by
     rcases ho2.2 with ⟨h, _⟩ | ⟨_, _, _, h, _, _, _, hm, _⟩
     ·cases h
     ·cases h; unfold maxLen at hm; omega
    rw [standL_close os0 x t k hc]
    rw [closesK_iff] at hc
    rcases hc with rfl | rfl | rfl
    ·obtain ⟨a, b⟩ := stand_turned ho2 hg
     refine (standLine_7 os0 x t g cap base w hn hcap hg c0 c1 f1).mono ?_
     rintro e w' ⟨rfl, rfl⟩
     exact ⟨_, rfl, a, b⟩
    ·obtain ⟨a, b⟩ := stand_turned ho2 hg
     refine (standLine_10 os0 x t g cap base w hn hcap hg c0 c1 f1).mono ?_
     rintro e w' ⟨rfl, rfl⟩
     exact ⟨_, rfl, a, b⟩
    ·refine (standLine_11 os0 x t g cap base w hn hcap hg c0 c1 f1).mono ?_
     rintro e w' ⟨rfl, q, rfl⟩
     have hb3 : Below w.heap.size w (w.drewN q) := below_drewN (Below.refl _ _) _
     refine ⟨_, rfl, grown_below hb3, ?_⟩
     have := own_below (own_take ho2 os0.length (by omega)) hb3
     rw [opn_take] at this
     exact this
end
section
open Go.RowKit
def LineAt (B : Nat) (w : World) (b o : Nat) (l : Ln) : Prop :=
 ∃ ao cap, l.2.args.length ≤ cap ∧ w.cell? ⟨b, o, none⟩ = some (.int .i64 l.1) ∧ w.cell? ⟨b, o + 1, none⟩ = some (.string l.2.to) ∧ w.cell? ⟨b, o + 2, none⟩ = some (.string l.2.name) ∧ w.cell? ⟨b, o + 3, none⟩ = some (.slice ao l.2.args.length cap) ∧ w.cell? ⟨b, o + 4, none⟩ = some (.string l.2.undo) ∧ StrsAt 0 B w ao l.2.args
def LinesAt (B : Nat) (w : World) (ao : Option Addr) (ls : List Ln) : Prop :=
 ∀ k (h : k < ls.length), ∃ b off, ao = some ⟨b, off, none⟩ ∧ b < B ∧ LineAt B w b (off + k * 5) ls[k]
structure LnSz (l : Ln) : Prop where
 len : l.2.args.length ≤ 1048576
 to : l.2.to.size ≤ 1048576
 name : l.2.name.size ≤ 1048576
 undo : l.2.undo.size ≤ 1048576
 args : ∀ s ∈ l.2.args, s.size ≤ 1048576
structure LnMx (l : Ln) : Prop where
 len : l.2.args.length ≤ 9223372036854775807
 to : l.2.to.size ≤ 9223372036854775807
 name : l.2.name.size ≤ 9223372036854775807
 undo : l.2.undo.size ≤ 9223372036854775807
 args : ∀ s ∈ l.2.args, s.size ≤ 9223372036854775807
section
variable {B B' : Nat} {w w' : World} {b o : Nat} {l : Ln} {ao : Option Addr} {ls : List Ln}
theorem LineAt.below (h : LineAt B w b o l) (hb : Below B w w') (hB : b < B) : LineAt B w' b o l := by
 obtain ⟨ao, cap, h0, h1, h2, h3, h4, h5, h6⟩ := h
 exact ⟨ao, cap, h0, (hb.cell (p := ⟨b, _, none⟩) hB).trans h1, (hb.cell (p := ⟨b, _, none⟩) hB).trans h2, (hb.cell (p := ⟨b, _, none⟩) hB).trans h3, (hb.cell (p := ⟨b, _, none⟩) hB).trans h4, (hb.cell (p := ⟨b, _, none⟩) hB).trans h5, h6.below hb⟩
theorem LineAt.mono (h : LineAt B w b o l) (hB : B ≤ B') : LineAt B' w b o l := by
 obtain ⟨ao, cap, h0, h1, h2, h3, h4, h5, h6⟩ := h
 exact ⟨ao, cap, h0, h1, h2, h3, h4, h5, h6.mono (Nat.le_refl _) hB⟩
theorem LinesAt.below (h : LinesAt B w ao ls) (hb : Below B w w') : LinesAt B w' ao ls := by
 intro k hk
 obtain ⟨b, off, e, hB, hl⟩ := h k hk
 exact ⟨b, off, e, hB, hl.below hb hB⟩
theorem LinesAt.mono (h : LinesAt B w ao ls) (hB : B ≤ B') : LinesAt B' w ao ls := by
 intro k hk
 obtain ⟨b, off, e, hb, hl⟩ := h k hk
 exact ⟨b, off, e, Nat.lt_of_lt_of_le hb hB, hl.mono hB⟩
theorem LinesAt.later (h : LinesAt w.heap.size w ao ls) (hb : Below w.heap.size w w') : LinesAt w'.heap.size w' ao ls := (h.below hb).mono hb.size
theorem LinesAt.nil : LinesAt B w ao [] := fun k hk => by simp at hk
theorem LinesAt.drop {off : Nat} (h : LinesAt B w (some ⟨b, off, none⟩) ls) (n : Nat) : LinesAt B w (some ⟨b, off + n * 5, none⟩) (ls.drop n) := by
 intro k hk
 have hk' : n + k < ls.length := by simp at hk; omega
 obtain ⟨b', off', e, hB, hl⟩ := h (n + k) hk'
 cases e
 refine ⟨b, off + n * 5, rfl, hB, ?_⟩
 have e2 : off + n * 5 + k * 5 = off + (n + k) * 5 := by omega
 rw [e2, List.getElem_drop]; exact hl
theorem LinesAt.take (h : LinesAt B w ao ls) (n : Nat) : LinesAt B w ao (ls.take n) := by
 intro k hk
 have hk' : k < ls.length := by simp at hk; omega
 obtain ⟨b', off', e, hB, hl⟩ := h k hk'
 exact ⟨b', off', e, hB, by rw [List.getElem_take]; exact hl⟩
end
def standB (ls : List Ln) (back : Ln → Bool) : Prop := ls ≠ [] ∧ (∀ l ∈ ls, back l = true) ∧ standP true [] (kinds ls) = some []
theorem kinds_take_succ (ls : List Ln) (k : Nat) (h : k < ls.length) : kinds (ls.take (k + 1)) = kinds (ls.take k) ++ [ls[k].1] := by
 rw [kinds, kinds, List.take_succ_eq_append_getElem h, List.map_append]; rfl
theorem kinds_split (ls : List Ln) (k : Nat) : kinds ls = kinds (ls.take k) ++ kinds (ls.drop k) := by
 rw [kinds, kinds, kinds, ← List.map_append, List.take_append_drop]
theorem stand_no {ls : List Ln} {k : Nat} (h : standP true [] (kinds (ls.take k)) = none) : standP true [] (kinds ls) ≠ some [] := by
 rw [kinds_split ls k, standP_none _ _ _ _ h]; simp
end
section
open Go.RowKit
def LineErr (v : Value) : Prop := ∃ (ln c : Int), v = .iface 96 (.agg #[.int .i64 ln, .int .i64 c]) ∧ c ≠ 0
theorem stand_step {ls : List Ln} {k : Nat} {os : List Opn} (hk : k < ls.length) (hp : standP true [] (kinds (ls.take k)) = some os) :
  standP true [] (kinds (ls.take (k + 1))) = stepO (decide (k = 0)) os ls[k].1 := by
 rw [kinds_take_succ ls k hk, standP_snoc, hp, Option.bind_some]
 congr 1
 cases k with
 | zero => simp [kinds]
 | succ k =>
  have : (kinds (ls.take (k + 1))).isEmpty = false := by
   match ls, hk with
   | a :: r, _ => simp [kinds]
  rw [this]; simp
theorem checkStanding_nil (ao : Option Addr) (cap : Nat) (w : World) :
  Calls Tryz.prog 61 #[.slice ao 0 cap] w fun e w' => ∃ v, e = .returned v ∧ LineErr v ∧ w' = w := by
 go_enter Tryz.func61, Tryz.ntmps61
 go_wp2
 go_ret
 exact ⟨_, rfl, ⟨_, _, rfl, by decide⟩, rfl⟩
end
end Go.Proofs.YtlbjjbolbopfmaaGreatDoor
