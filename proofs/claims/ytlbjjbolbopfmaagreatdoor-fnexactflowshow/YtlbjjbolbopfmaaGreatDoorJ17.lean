import Derived.Test.YtlbjjbolbopfmaaGreatDoorJ16
import Derived.Deep.RegionHeld3
import Derived.Deep.AppendLies
import Derived.Test.YtlbjjbolbopfmaaGreatDoorJ03
import Derived.Test.YtlbjjbolbopfmaaGreatDoorJ12
import Derived.Test.YtlbjjbolbopfmaaGreatDoorJ04
namespace Go.Proofs.YtlbjjbolbopfmaaGreatDoor
set_option maxHeartbeats 4000000
set_option maxRecDepth 1000000
set_option linter.unusedVariables false
section
def forS : ByteArray := ⟨#[102, 111, 114]⟩
def outW (k : Int) (d : Bd) : List ByteArray :=
 if branchK k = true then [z_a3 k, d.args.getD 0 eS, d.name, d.args.getD 1 eS]
 else (z_a3 k :: z_ay [d.to, d.name]) ++ (if k = 5 ∧ 0 < d.args.length then [forS] else []) ++ d.args ++ z_cn d.undo
def z_cc (ws : List ByteArray) : ByteArray := ⟨(Lib.join (ws.map (·.data.toList)) [32]).toArray⟩
theorem z_em (M : Nat) : ∀ ws : List ByteArray, (∀ s ∈ ws, s.size ≤ M) → (Lib.joinTail [32] (ws.map (·.data.toList))).length ≤ ws.length * (M + 1)
 | [], _ => by simp [Lib.joinTail]
 | a :: r, h => by
  have h1 := h a (by simp)
  have h2 := z_em M r (fun s hs => h s (by simp [hs]))
  simp only [Lib.joinTail, List.map_cons, List.flatten_cons, List.length_append, List.length_cons, List.length_nil] at h2 ⊢
  have e : a.data.toList.length = a.size := by simp
  rw [e, Nat.add_mul r.length 1, Nat.one_mul]
  omega
theorem z_ht (M : Nat) (ws : List ByteArray) (h : ∀ s ∈ ws, s.size ≤ M) : (Lib.join (ws.map (·.data.toList)) [32]).length ≤ ws.length * (M + 1) := by
 match ws, h with
 | [], _ => simp [Lib.join_nil]
 | a :: r, h =>
  have h1 := h a (by simp)
  have h2 := z_em M r (fun s hs => h s (by simp [hs]))
  have e : a.data.toList.length = a.size := by simp
  rw [List.map_cons, Lib.join_cons, List.length_append, e, List.length_cons, Nat.add_mul r.length 1, Nat.one_mul]
  omega
theorem z_bJ {c : Prop} {_ : Decidable c} (n : Nat) {a b : ByteArray} (ha : a.size ≤ n) (hb : b.size ≤ n) : (if c then a else b).size ≤ n := by split <;> assumption
theorem z_cF (k : Int) : (z_a3 k).size ≤ 8 := z_bJ _ (by decide) (z_bJ _ (by decide) (z_bJ _ (by decide) (z_bJ _ (by decide) (z_bJ _ (by decide) (z_bJ _ (by decide) (z_bJ _ (by decide) (z_bJ _ (by decide) (z_bJ _ (by decide) (z_bJ _ (by decide) (z_bJ _ (by decide) (z_bJ _ (by decide) (z_bJ _ (by decide) (z_bJ _ (by decide) (z_bJ _ (by decide) (by decide)))))))))))))))
theorem z_hv (ms : List ByteArray) : (z_ay ms).length ≤ ms.length := List.length_filter_le _ _
theorem z_he (u : ByteArray) : (z_cn u).length ≤ 2 := by rw [z_cn]; split <;> simp
end
section
open Go.RowKit
theorem z_gD {w : World} {base g : Nat} {a : ByteArray} (h : w.heap[g]? = some (.cells #[.string a] 9 (0, 0))) (hb : base ≤ g) : w.ownsRow base 9 1 (.slice (some ⟨g, 0, none⟩) 1 1) 1 (strCells [a]) :=
 ⟨rfl, .inr ⟨g, 1, _, rfl, hb, h, Nat.le_refl _, by unfold maxLen; omega, rfl, rfl⟩⟩
theorem z_me (w : World) (x y : ByteArray) (t : TypeId) : ∀ k (h : k < [x, y].length), (w.alloc (.cells #[.string x, .string y] t)).cell? ⟨w.heap.size, k, none⟩ = some (.string ([x, y][k]'h)) := by
 intro k h
 match k, h with
 | 0, _ => simp [go_sem]
 | 1, _ => simp [go_sem]
theorem z_m4 {w w2 : World} {L : Obj} {x : ByteArray} {t : TypeId} (h : Below ((w.alloc L).alloc (.cells #[.string x] t)).heap.size ((w.alloc L).alloc (.cells #[.string x] t)) w2) : w2.heap[w.heap.size + 1]? = some (.cells #[.string x] t (0, 0)) := by
 rw [h.block _ (by simp)]
 show ((w.heap.push L).push (.cells #[.string x] t (0, 0)))[w.heap.size + 1]? = _
 rw [Array.getElem?_push, if_pos (by simp)]
theorem z_nC {w : World} {base : Nat} {v : Value} {B C : List ByteArray} (h : w.ownsRow base 9 1 v (B.length + C.length) (strCells B ++ strCells C)) : w.ownsRow base 9 1 v (B ++ C).length (strCells (B ++ C)) := by
 have e : strCells (B ++ C) = strCells B ++ strCells C := List.map_append ..
 rw [e, List.length_append]; exact h
theorem z_bR {w : World} {base g c : Nat} {ss : List ByteArray} (h : w.ownsRow base 9 1 (.slice (some ⟨g, 0, none⟩) ss.length c) ss.length (strCells ss)) : ss.length ≤ c := by
 rcases h.2 with ⟨h, _⟩ | ⟨g, cp, cur, h, _, _, h2, _⟩
 ·cases h
 ·cases h; exact h2
theorem z_bq {w : World} {base g c : Nat} {ss : List ByteArray} (h : w.ownsRow base 9 1 (.slice (some ⟨g, 0, none⟩) ss.length c) ss.length (strCells ss)) : ∀ (j : Nat) x, ss[j]? = some x → w.cell? ⟨g, 0 + j, none⟩ = some (.string x) := by
 intro j x hx
 obtain ⟨hj, e⟩ := List.getElem?_eq_some_iff.1 hx
 rw [Nat.zero_add, h.cellAt j (by omega)]
 simp [strCells, hj, e]
theorem z_b0 {A B : Nat} {w : World} {b off : Nat} {ss : List ByteArray} (hi : StrsAt A B w (some ⟨b, off, none⟩) ss) : ∀ j u, (strCells ss)[j]? = some u → w.cell? ((⟨b, off, none⟩ : Addr).add j) = some u := by
 intro j u hj
 have hjl : j < ss.length := by
  have := (List.getElem?_eq_some_iff.1 hj).1
  simpa [strCells] using this
 obtain ⟨b', off', e, _, hc⟩ := hi.at j hjl
 simp only [Option.some.injEq, Addr.mk.injEq] at e
 obtain ⟨rfl, rfl, _⟩ := e
 have e2 : (⟨b, off, none⟩ : Addr).add j = ⟨b, off + j, none⟩ := by
  unfold Addr.add
  split
  ·rename_i h; subst h; rfl
  ·rfl
 rw [e2, hc]
 simp [strCells, hjl] at hj
 rw [hj]
theorem z_fv (k : Int) (ao : Option Addr) (cap : Nat) (d : Bd) (w : World) (hk : branchK k = false) (hcap : d.args.length ≤ cap) (hl : d.args.length ≤ 1048576) (hs : ∀ s ∈ outW k d, s.size ≤ 1048576)
  (hi : StrsAt 0 w.heap.size w ao d.args) :
  Calls Tryz.prog 124 #[.agg #[.int .i64 k, .string d.to, .string d.name, .slice ao d.args.length cap, .string d.undo]] w fun e w' => e = .returned (.string (z_cc (outW k d))) ∧ Below w.heap.size w w' := by
 obtain ⟨i0, hi0, hz0, hz1, hz2⟩ := info_parts Tryz.infoStr
 have HI : Hid (StrsAt 0 w.heap.size w ao d.args) := hi
 have HS : Hid (∀ s ∈ outW k d, s.size ≤ 1048576) := hs
 have HK : Hid (branchK k = false) := hk
 clear hi hs hk
 go_enter Tryz.func124, Tryz.ntmps124
 go_wp2_with (go_at_call 159; refine (z_df _ _).mono ?_; rintro e w' ⟨rfl, rfl⟩)
 refine (z_cv _ _ _ _ _ _).mono ?_
 rintro e w2 ⟨rfl, hb2⟩
 rw [HK.out]
 have hb2' : Below (w.heap.size + 1) (w.alloc (.cells #[.int .i64 k, .string d.to, .string d.name, .slice ao d.args.length cap, .string d.undo] 49)) w2 := ((Below.refl _ _).alloc (by simp) _).trans (hb2.mono (by simp))
 obtain ⟨⟨x0, x1, x2, x3, x4⟩, hf, hlt⟩ := box5 (hb2'.mono (by simp))
 have hw2 : w.heap.size + 2 ≤ w2.heap.size := by have := hb2.size; simpa using this
 have HB2 : Hid (Below w.heap.size w w2) := ((Below.refl _ _).alloc (Nat.le_refl _) _).trans (hb2'.mono (by simp))
 have HO2 : Hid (w2.ownsRow (w.heap.size + 1) 9 1 (.slice (some ⟨w.heap.size + 1, 0, none⟩) 1 1) [z_a3 k].length (strCells [z_a3 k])) := z_gD (z_m4 hb2) (Nat.le_refl _)
 clear hb2 hb2'
 go_wp2_with fail
 refine (z_dE (w.heap.size + 1) w2.heap.size 2 _ [z_a3 k] [d.to, d.name] _ (HO2.out.alloc _) (by simp; omega) ?_ (by simp) (by simp [Value.ownBlock]; omega) (by simp) (Nat.le_refl _)).mono ?_
 ·exact z_me w2 d.to d.name _
 rintro e w3 ⟨v3, rfl, hb3, hown3⟩
 have hb3' : Below (w.heap.size + 1) w2 w3 := ((Below.refl _ _).alloc (by omega) _).trans hb3
 have HB3 : Hid (Below w.heap.size w w3) := HB2.out.trans (hb3'.mono (by omega))
 obtain ⟨hq, hfq⟩ := (show (∀ o, w3.cell? ⟨w.heap.size, o, none⟩ = w2.cell? ⟨w.heap.size, o, none⟩) ∧ (∀ o, w3.frozen? ⟨w.heap.size, o, none⟩ = w2.frozen? ⟨w.heap.size, o, none⟩) from ⟨fun o => hb3'.cell (p := ⟨w.heap.size, o, none⟩) (by simp), fun o => hb3'.frozen (p := ⟨w.heap.size, o, none⟩) (by simp)⟩)
 have y0 := (hq 0).trans x0
 have y3 := (hq 3).trans x3
 have y4 := (hq 4).trans x4
 have hf3 : ∀ o, w3.frozen? ⟨w.heap.size, o, none⟩ = false := fun o => (hfq o).trans (hf o)
 have hw3 : w.heap.size + 2 ≤ w3.heap.size := by have := hb3'.size; omega
 obtain ⟨g3, c3, rfl, hg3, hlt3⟩ := hown3.form (by simp)
 have HO3 : Hid (w3.ownsRow (w.heap.size + 1) 9 1 (.slice (some ⟨g3, 0, none⟩) ([z_a3 k] ++ z_ay [d.to, d.name]).length c3) ([z_a3 k] ++ z_ay [d.to, d.name]).length (strCells ([z_a3 k] ++ z_ay [d.to, d.name]))) := hown3
 clear hb3 hb3' hq hfq hown3 x0 x1 x2 x3 x4 hf hlt HO2 HB2 hw2
 have hcA : ([z_a3 k] ++ z_ay [d.to, d.name]).length ≤ c3 := by
  rcases HO3.out.2 with ⟨h, _⟩ | ⟨g, cp, cur, h, _, _, h2, _⟩
  ·cases h
  ·cases h; exact h2
 obtain ⟨A, hA⟩ : ∃ A, A = [z_a3 k] ++ z_ay [d.to, d.name] := ⟨_, rfl⟩
 rw [← hA] at HO3 hcA
 have hAl : A.length ≤ 3 := by rw [hA]; have := z_hv [d.to, d.name]; simp at this ⊢; omega
 have hA1 : 0 < A.length := by rw [hA]; simp
 have HN : Hid (outW k d = A ++ (if k = 5 ∧ 0 < d.args.length then [forS] else []) ++ d.args ++ z_cn d.undo) := by
  show _ = _
  rw [outW, HK.out, hA]; rfl
 rw [← hA]
 clear hA
 have hA0 : 0 < A.length := hA1
 have hW0 : 0 < (outW k d).length := by rw [HN.out]; simp only [List.length_append]; omega
 have hW1 : (outW k d).length ≤ 1048582 := by
  rw [HN.out]; have := z_he d.undo; simp only [List.length_append]; split <;> simp <;> omega
 have HJ : Hid ((Lib.join ((outW k d).map (·.data.toList)) [32]).length ≤ 140737488355328) := by
  have h1 := z_ht 1048576 _ HS.out
  have h2 : (outW k d).length * (1048576 + 1) ≤ 1048582 * (1048576 + 1) := Nat.mul_le_mul_right _ hW1
  show _ ≤ _
  omega
 by_cases hn : 0 < d.args.length
 ·obtain ⟨b, off, rfl, hB, _⟩ := HI.out 0 hn
  have hq0 : (0 : Int) < (d.args.length : Int) := by omega
  cases h5 : (k == 5) with
  | true =>
   have e5 : k = 5 := by simpa using h5
   have HE : Hid (outW k d = (A ++ [forS]) ++ d.args ++ z_cn d.undo) := by show _ = _; rw [HN.out, if_pos ⟨e5, hn⟩]
   clear e5 HN
   go_wp2_with (first | (at_builtin; (refine wpList_append_own _ rfl _ _ 45 rfl (w.heap.size + 1) 9 i0 (.string ByteArray.empty) 1 16 Tryz.underlying45 hi0 hz0 hz1 hz2 rfl (by decide) _ _ _ rfl (HO3.out.alloc _) ⟨w3.heap.size, 0, none⟩ 1 1 [.string forS] rfl rfl (cell_one_new _ _ _) (fun u hu => by simp at hu; subst hu; rfl) (by unfold maxLen; omega) (by omega) (by simp; omega) ?_; intro v7 w7 hown7 hgrow7 _; have hb7 := z_b8 HO3.out (Below.refl _ _) ((Below.refl _ _).alloc (Nat.le_refl _) _) (by omega) hgrow7 (by rfl); have HO7 : Hid (w7.ownsRow (w.heap.size + 1) 9 1 v7 (A ++ [forS]).length (strCells (A ++ [forS]))) := (by simpa [strCells, Hid] using hown7); have HB7 : Hid (Below w.heap.size w w7) := HB3.out.trans (hb7.mono (by omega)); have hw7 : w.heap.size + 2 ≤ w7.heap.size := (by have := hb7.size; omega); have z3 := (hb7.cell (p := ⟨w.heap.size, 3, none⟩) (by simp)).trans y3; have z7 := (hb7.cell (p := ⟨w.heap.size, 4, none⟩) (by simp)).trans y4; clear hown7 hgrow7 hb7)) | (at_builtin; go_loud (refine wpList_append_own _ rfl _ _ 45 rfl (w.heap.size + 1) 9 i0 (.string ByteArray.empty) 1 16 Tryz.underlying45 hi0 hz0 hz1 hz2 rfl (by decide) _ _ _ rfl HO7.out ⟨b, off, none⟩ d.args.length cap (strCells d.args) rfl (by simp [strCells]) (z_b0 (HI.out.below HB7.out)) (by intro u hu; simp [strCells] at hu <;> (obtain ⟨a, _, rfl⟩ := hu; rfl)) (by unfold maxLen; first | omega | (simp; omega)) (by first | omega | (simp; omega)) (by omega) ?_; intro v4 w4 hown4 hgrow4 _; have hb4 := z_b8 HO7.out (Below.refl _ _) (Below.refl _ _) (by omega) hgrow4 (by rfl); have HO4 : Hid (w4.ownsRow (w.heap.size + 1) 9 1 v4 ((A ++ [forS]) ++ d.args).length (strCells ((A ++ [forS]) ++ d.args))) := (z_nC hown4); have HB4 : Hid (Below w.heap.size w w4) := HB7.out.trans (hb4.mono (by omega)); have hw4 : w.heap.size + 2 ≤ w4.heap.size := (by have := hb4.size; omega); have z4 := (hb4.cell (p := ⟨w.heap.size, 4, none⟩) (by simp)).trans z7; clear hown4 hgrow4 hb4)))
   refine (z_bL (w.heap.size + 1) _ ((A ++ [forS]) ++ d.args) d.undo _ HO4.out (by omega) (by first | omega | (simp; omega))).mono ?_
   rintro e w5 ⟨v5, rfl, hb5, hown5⟩
   have HB5 : Hid (Below w.heap.size w w5) := HB4.out.trans (hb5.mono (by omega))
   have hown6 : w5.ownsRow (w.heap.size + 1) 9 1 v5 (outW k d).length (strCells (outW k d)) := by rw [HE.out]; exact hown5
   obtain ⟨g5, c5, rfl, hg5, hlt5⟩ := hown6.form hW0
   have hc5 : (outW k d).length ≤ c5 := z_bR hown6
   have HC5 := z_bq hown6
   clear hb5 hown5 hown6
   go_wp2_with fail
   refine (Tryz.strings_Join g5 0 c5 (outW k d) ⟨#[32]⟩ w5 HC5 hlt5 (by omega) hc5 HJ.out).mono ?_
   rintro e w6 ⟨rfl, hb6⟩
   have HB6 : Below w.heap.size w w6 := HB5.out.trans (hb6.mono HB5.out.size)
   clear hb6
   go_wp2
   go_ret
   exact ⟨rfl, HB6⟩
  | false =>
   have e5 : ¬ k = 5 := by simpa using h5
   have HE : Hid (outW k d = A ++ d.args ++ z_cn d.undo) := by show _ = _; rw [HN.out, if_neg (fun h => e5 h.1), List.append_nil]
   clear e5 HN
   have HCA : Hid (∀ j u, (strCells d.args)[j]? = some u → w3.cell? ((⟨b, off, none⟩ : Addr).add j) = some u) := z_b0 (HI.out.below HB3.out)
   go_wp2_with (at_builtin; go_loud (refine wpList_append_own _ rfl _ _ 45 rfl (w.heap.size + 1) 9 i0 (.string ByteArray.empty) 1 16 Tryz.underlying45 hi0 hz0 hz1 hz2 rfl (by decide) _ _ _ rfl HO3.out ⟨b, off, none⟩ d.args.length cap (strCells d.args) rfl (by simp [strCells]) HCA.out (by intro u hu; simp [strCells] at hu; obtain ⟨a, _, rfl⟩ := hu; rfl) (by unfold maxLen; first | omega | (simp; omega)) (by first | omega | (simp; omega)) (by omega) ?_; intro v4 w4 hown4 hgrow4 _; have hb4 := z_b8 HO3.out (Below.refl _ _) (Below.refl _ _) (by omega) hgrow4 (by rfl); have HO4 : Hid (w4.ownsRow (w.heap.size + 1) 9 1 v4 (A ++ d.args).length (strCells (A ++ d.args))) := (by simpa [strCells, Hid] using hown4); have HB4 : Hid (Below w.heap.size w w4) := HB3.out.trans (hb4.mono (by omega)); have hw4 : w.heap.size + 2 ≤ w4.heap.size := (by have := hb4.size; omega); have z4 := (hb4.cell (p := ⟨w.heap.size, 4, none⟩) (by simp)).trans y4; clear hown4 hgrow4 hb4))
   refine (z_bL (w.heap.size + 1) _ (A ++ d.args) d.undo _ HO4.out (by omega) (by first | omega | (simp; omega))).mono ?_
   rintro e w5 ⟨v5, rfl, hb5, hown5⟩
   have HB5 : Hid (Below w.heap.size w w5) := HB4.out.trans (hb5.mono (by omega))
   have hown6 : w5.ownsRow (w.heap.size + 1) 9 1 v5 (outW k d).length (strCells (outW k d)) := by rw [HE.out]; exact hown5
   obtain ⟨g5, c5, rfl, hg5, hlt5⟩ := hown6.form hW0
   have hc5 : (outW k d).length ≤ c5 := z_bR hown6
   have HC5 := z_bq hown6
   clear hb5 hown5 hown6
   go_wp2_with fail
   refine (Tryz.strings_Join g5 0 c5 (outW k d) ⟨#[32]⟩ w5 HC5 hlt5 (by omega) hc5 HJ.out).mono ?_
   rintro e w6 ⟨rfl, hb6⟩
   have HB6 : Below w.heap.size w w6 := HB5.out.trans (hb6.mono HB5.out.size)
   clear hb6
   go_wp2
   go_ret
   exact ⟨rfl, HB6⟩
 ·have e0 : d.args = [] := List.length_eq_zero_iff.1 (by omega)
  have HE : Hid (outW k d = A ++ z_cn d.undo) := by show _ = _; rw [HN.out, if_neg (fun h => hn h.2), e0, List.append_nil, List.append_nil]
  clear HN hn
  cases ao with
  | none =>
   cases h5 : (k == 5) with
   | true =>
    rw [e0] at y3 ⊢
    go_wp2_with fail
    refine (z_bL (w.heap.size + 1) _ A d.undo _ HO3.out (by omega) (by first | omega | (simp; omega))).mono ?_
    rintro e w5 ⟨v5, rfl, hb5, hown5⟩
    have HB5 : Hid (Below w.heap.size w w5) := HB3.out.trans (hb5.mono (by omega))
    have hown6 : w5.ownsRow (w.heap.size + 1) 9 1 v5 (outW k d).length (strCells (outW k d)) := by rw [HE.out]; exact hown5
    obtain ⟨g5, c5, rfl, hg5, hlt5⟩ := hown6.form hW0
    have hc5 : (outW k d).length ≤ c5 := z_bR hown6
    have HC5 := z_bq hown6
    clear hb5 hown5 hown6
    go_wp2_with fail
    refine (Tryz.strings_Join g5 0 c5 (outW k d) ⟨#[32]⟩ w5 HC5 hlt5 (by omega) hc5 HJ.out).mono ?_
    rintro e w6 ⟨rfl, hb6⟩
    have HB6 : Below w.heap.size w w6 := HB5.out.trans (hb6.mono HB5.out.size)
    clear hb6
    go_wp2
    go_ret
    exact ⟨rfl, HB6⟩
   | false =>
    rw [e0] at y3 ⊢
    go_wp2_with fail
    refine (z_bL (w.heap.size + 1) _ A d.undo _ HO3.out (by omega) (by first | omega | (simp; omega))).mono ?_
    rintro e w5 ⟨v5, rfl, hb5, hown5⟩
    have HB5 : Hid (Below w.heap.size w w5) := HB3.out.trans (hb5.mono (by omega))
    have hown6 : w5.ownsRow (w.heap.size + 1) 9 1 v5 (outW k d).length (strCells (outW k d)) := by rw [HE.out]; exact hown5
    obtain ⟨g5, c5, rfl, hg5, hlt5⟩ := hown6.form hW0
    have hc5 : (outW k d).length ≤ c5 := z_bR hown6
    have HC5 := z_bq hown6
    clear hb5 hown5 hown6
    go_wp2_with fail
    refine (Tryz.strings_Join g5 0 c5 (outW k d) ⟨#[32]⟩ w5 HC5 hlt5 (by omega) hc5 HJ.out).mono ?_
    rintro e w6 ⟨rfl, hb6⟩
    have HB6 : Below w.heap.size w w6 := HB5.out.trans (hb6.mono HB5.out.size)
    clear hb6
    go_wp2
    go_ret
    exact ⟨rfl, HB6⟩
  | some ad =>
   cases h5 : (k == 5) with
   | true =>
    rw [e0] at y3 ⊢
    go_wp2_with ((at_builtin; refine wpList_append_own _ rfl _ _ 45 rfl (w.heap.size + 1) 9 i0 (.string ByteArray.empty) 1 16 Tryz.underlying45 hi0 hz0 hz1 hz2 rfl (by decide) _ _ _ rfl HO3.out ad 0 cap (strCells []) rfl (by simp [strCells]) (by intro j u hj; simp [strCells] at hj) (by intro u hu; simp [strCells] at hu <;> (obtain ⟨a, _, rfl⟩ := hu; rfl)) (by unfold maxLen; first | omega | (simp; omega)) (by first | omega | (simp; omega)) (by omega) ?_; intro v4 w4 hown4 hgrow4 _; have hb4 := z_b8 HO3.out (Below.refl _ _) (Below.refl _ _) (by omega) hgrow4 (by rfl); have HO4 : Hid (w4.ownsRow (w.heap.size + 1) 9 1 v4 A.length (strCells A)) := (by simpa [strCells, Hid] using hown4); have HB4 : Hid (Below w.heap.size w w4) := HB3.out.trans (hb4.mono (by omega)); have hw4 : w.heap.size + 2 ≤ w4.heap.size := (by have := hb4.size; omega); have z4 := (hb4.cell (p := ⟨w.heap.size, 4, none⟩) (by simp)).trans y4; clear hown4 hgrow4 hb4))
    refine (z_bL (w.heap.size + 1) _ A d.undo _ HO4.out (by omega) (by first | omega | (simp; omega))).mono ?_
    rintro e w5 ⟨v5, rfl, hb5, hown5⟩
    have HB5 : Hid (Below w.heap.size w w5) := HB4.out.trans (hb5.mono (by omega))
    have hown6 : w5.ownsRow (w.heap.size + 1) 9 1 v5 (outW k d).length (strCells (outW k d)) := by rw [HE.out]; exact hown5
    obtain ⟨g5, c5, rfl, hg5, hlt5⟩ := hown6.form hW0
    have hc5 : (outW k d).length ≤ c5 := z_bR hown6
    have HC5 := z_bq hown6
    clear hb5 hown5 hown6
    go_wp2_with fail
    refine (Tryz.strings_Join g5 0 c5 (outW k d) ⟨#[32]⟩ w5 HC5 hlt5 (by omega) hc5 HJ.out).mono ?_
    rintro e w6 ⟨rfl, hb6⟩
    have HB6 : Below w.heap.size w w6 := HB5.out.trans (hb6.mono HB5.out.size)
    clear hb6
    go_wp2
    go_ret
    exact ⟨rfl, HB6⟩
   | false =>
    rw [e0] at y3 ⊢
    go_wp2_with ((at_builtin; refine wpList_append_own _ rfl _ _ 45 rfl (w.heap.size + 1) 9 i0 (.string ByteArray.empty) 1 16 Tryz.underlying45 hi0 hz0 hz1 hz2 rfl (by decide) _ _ _ rfl HO3.out ad 0 cap (strCells []) rfl (by simp [strCells]) (by intro j u hj; simp [strCells] at hj) (by intro u hu; simp [strCells] at hu <;> (obtain ⟨a, _, rfl⟩ := hu; rfl)) (by unfold maxLen; first | omega | (simp; omega)) (by first | omega | (simp; omega)) (by omega) ?_; intro v4 w4 hown4 hgrow4 _; have hb4 := z_b8 HO3.out (Below.refl _ _) (Below.refl _ _) (by omega) hgrow4 (by rfl); have HO4 : Hid (w4.ownsRow (w.heap.size + 1) 9 1 v4 A.length (strCells A)) := (by simpa [strCells, Hid] using hown4); have HB4 : Hid (Below w.heap.size w w4) := HB3.out.trans (hb4.mono (by omega)); have hw4 : w.heap.size + 2 ≤ w4.heap.size := (by have := hb4.size; omega); have z4 := (hb4.cell (p := ⟨w.heap.size, 4, none⟩) (by simp)).trans y4; clear hown4 hgrow4 hb4))
    refine (z_bL (w.heap.size + 1) _ A d.undo _ HO4.out (by omega) (by first | omega | (simp; omega))).mono ?_
    rintro e w5 ⟨v5, rfl, hb5, hown5⟩
    have HB5 : Hid (Below w.heap.size w w5) := HB4.out.trans (hb5.mono (by omega))
    have hown6 : w5.ownsRow (w.heap.size + 1) 9 1 v5 (outW k d).length (strCells (outW k d)) := by rw [HE.out]; exact hown5
    obtain ⟨g5, c5, rfl, hg5, hlt5⟩ := hown6.form hW0
    have hc5 : (outW k d).length ≤ c5 := z_bR hown6
    have HC5 := z_bq hown6
    clear hb5 hown5 hown6
    go_wp2_with fail
    refine (Tryz.strings_Join g5 0 c5 (outW k d) ⟨#[32]⟩ w5 HC5 hlt5 (by omega) hc5 HJ.out).mono ?_
    rintro e w6 ⟨rfl, hb6⟩
    have HB6 : Below w.heap.size w w6 := HB5.out.trans (hb6.mono HB5.out.size)
    clear hb6
    go_wp2
    go_ret
    exact ⟨rfl, HB6⟩
end
section
open Go.RowKit
theorem z_lq (a1 a2 : Option Addr) (c e : Nat) (xs ys : List ByteArray) (A1 B1 A2 B2 : Nat) (w : World) (hx : xs.length ≤ 9223372036854775807) (hy : ys.length ≤ 9223372036854775807) (h1 : StrsAt A1 B1 w a1 xs) (h2 : StrsAt A2 B2 w a2 ys) :
  Calls Tryz.prog 161 #[.slice a1 xs.length c, .slice a2 ys.length e] w fun e w' => e = .returned (.bool (decide (xs = ys))) ∧ ∃ q, w' = w.drewN q := by
 by_cases hl : xs.length = ys.length
 ·by_cases h0 : 0 < xs.length
  ·obtain ⟨b1, o1, rfl, _, _⟩ := h1 0 h0
   obtain ⟨b2, o2, rfl, _, _⟩ := h2 0 (by omega)
   refine (Tryz.slices_Equal_string b1 o1 xs.length c b2 o2 ys.length e xs ys w (Nat.le_refl _) (Nat.le_refl _) hx hy ?_ ?_).mono ?_
   ·intro j hj
    obtain ⟨b', o', e', _, hc⟩ := h1 j hj
    cases e'; exact hc
   ·intro j hj
    obtain ⟨b', o', e', _, hc⟩ := h2 j hj
    cases e'; exact hc
   ·rintro e w' ⟨rfl, q, rfl⟩
    exact ⟨by rw [List.take_length, List.take_length], q, rfl⟩
  ·have e1 : xs = [] := List.length_eq_zero_iff.1 (by omega)
   have e2 : ys = [] := List.length_eq_zero_iff.1 (by omega)
   subst e1 e2
   refine (Tryz.slices_Equal_string_empty a1 a2 c 0 e w (by omega)).mono ?_
   rintro e w' ⟨rfl, rfl⟩
   exact ⟨by simp, 0, rfl⟩
 ·refine (Tryz.slices_Equal_string_lens a1 a2 xs.length c ys.length e w hl).mono ?_
  rintro e w' ⟨rfl, rfl⟩
  refine ⟨?_, 0, rfl⟩
  have : ¬ xs = ys := fun h => hl (by rw [h])
  simp [this]
def z_a0 (k k' : Int) (d d' : Bd) : Bool := (k == k') && (d.to.toList == d'.to.toList) && (d.name.toList == d'.name.toList) && (d.undo.toList == d'.undo.toList) && decide (d.args = d'.args)
theorem z_eo (k k' : Int) (d d' : Bd) (a1 a2 : Option Addr) (c c' : Nat) (A1 A2 : Nat) (w : World) (hx : d.args.length ≤ 9223372036854775807) (hy : d'.args.length ≤ 9223372036854775807) (h1 : StrsAt A1 w.heap.size w a1 d.args) (h2 : StrsAt A2 w.heap.size w a2 d'.args) :
  Calls Tryz.prog 125 #[.agg #[.int .i64 k, .string d.to, .string d.name, .slice a1 d.args.length c, .string d.undo], .agg #[.int .i64 k', .string d'.to, .string d'.name, .slice a2 d'.args.length c', .string d'.undo]] w fun e w' => e = .returned (.bool (z_a0 k k' d d')) ∧ Below w.heap.size w w' := by
 have H1 : Hid (StrsAt A1 w.heap.size w a1 d.args) := h1
 have H2 : Hid (StrsAt A2 w.heap.size w a2 d'.args) := h2
 clear h1 h2
 have HB : Hid (∀ L L' : Obj, Below w.heap.size w ((w.alloc L).alloc L')) := fun L L' => ((Below.refl _ _).alloc (Nat.le_refl _) _).alloc (by simp) _
 cases q1 : (k == k') with
 | false =>
  go_enter Tryz.func125, Tryz.ntmps125
  go_wp2
  go_ret
  exact ⟨by simp only [z_a0, q1] <;> rfl, HB.out _ _⟩
 | true =>
  cases q2 : (d.to.toList == d'.to.toList) with
  | false =>
   go_enter Tryz.func125, Tryz.ntmps125
   go_wp2
   go_ret
   exact ⟨by simp only [z_a0, q1, q2] <;> rfl, HB.out _ _⟩
  | true =>
   cases q3 : (d.name.toList == d'.name.toList) with
   | false =>
    go_enter Tryz.func125, Tryz.ntmps125
    go_wp2
    go_ret
    exact ⟨by simp only [z_a0, q1, q2, q3] <;> rfl, HB.out _ _⟩
   | true =>
    cases q4 : (d.undo.toList == d'.undo.toList) with
    | false =>
     go_enter Tryz.func125, Tryz.ntmps125
     go_wp2
     go_ret
     exact ⟨by simp only [z_a0, q1, q2, q3, q4] <;> rfl, HB.out _ _⟩
    | true =>
     go_enter Tryz.func125, Tryz.ntmps125
     go_wp2_with fail
     refine (z_lq a1 a2 c c' d.args d'.args A1 w.heap.size A2 w.heap.size _ hx hy (H1.out.below (HB.out _ _)) (H2.out.below (HB.out _ _))).mono ?_
     rintro e w1 ⟨rfl, q, rfl⟩
     cases q5 : decide (d.args = d'.args) with
     | false =>
      go_wp2
      go_ret
      exact ⟨by simp only [z_a0, q1, q2, q3, q4, q5] <;> rfl, z_aa (HB.out _ _) _⟩
     | true =>
      go_wp2
      go_ret
      exact ⟨by simp only [z_a0, q1, q2, q3, q4, q5] <;> rfl, z_aa (HB.out _ _) _⟩
end
section
open Go.RowKit
set_option linter.unusedSimpArgs false
theorem writeLine_branch (k : Int) (b off : Nat) (cap : Nat) (tq name undo p q : ByteArray) (w : World) (hk : branchK k = true) (hcap : 2 ≤ cap) (hs : ∀ s ∈ outW k ⟨tq, name, [p, q], undo⟩, s.size ≤ 1048576)
    (hi : StrsAt 0 w.heap.size w (some ⟨b, off, none⟩) [p, q]) :
    Calls Tryz.prog 124 #[.agg #[.int .i64 k, .string tq, .string name, .slice (some ⟨b, off, none⟩) 2 cap, .string undo]] w fun e w' => e = .returned (.string (z_cc (outW k ⟨tq, name, [p, q], undo⟩))) ∧ Below w.heap.size w w' := by
  obtain ⟨i0, hi0, hz0, hz1, hz2⟩ := info_parts Tryz.infoStr
  have HS : Hid (∀ s ∈ outW k ⟨tq, name, [p, q], undo⟩, s.size ≤ 1048576) := hs
  have HK : Hid (branchK k = true) := hk
  have HN : Hid (outW k ⟨tq, name, [p, q], undo⟩ = [z_a3 k] ++ [p, name, q]) := by simp [Hid, outW, hk, eS]
  obtain ⟨_, _, e0, hB, hc0⟩ := hi.at 0 (by simp)
  cases e0
  obtain ⟨_, _, e1, _, hc1⟩ := hi.at 1 (by simp)
  cases e1
  obtain ⟨_, hBw⟩ := hB
  have c0 : w.cell? ⟨b, off, none⟩ = some (.string p) := hc0
  have c1 : w.cell? ⟨b, off + 1, none⟩ = some (.string q) := hc1
  clear hi hs hk hc0 hc1
  go_enter Tryz.func124, Tryz.ntmps124
  go_wp2_with (go_at_call 159; refine (z_df _ _).mono ?_; rintro e w' ⟨rfl, rfl⟩)
  refine (z_cv _ _ _ _ _ _).mono ?_
  rintro e w2 ⟨rfl, hb2⟩
  rw [HK.out]
  have hb2' : Below (w.heap.size + 1) (w.alloc (.cells #[.int .i64 k, .string tq, .string name, .slice (some ⟨b, off, none⟩) 2 cap, .string undo] 49)) w2 := ((Below.refl _ _).alloc (by simp) _).trans (hb2.mono (by simp))
  obtain ⟨⟨x0, x1, x2, x3, x4⟩, hf, hlt⟩ := box5 (hb2'.mono (by simp))
  have hw2 : w.heap.size + 2 ≤ w2.heap.size := by have := hb2.size; simpa using this
  have hbw : Below w.heap.size w w2 := ((Below.refl _ _).alloc (Nat.le_refl _) _).trans (hb2'.mono (by simp))
  have d0 := (hbw.cell (p := ⟨b, off, none⟩) hBw).trans c0
  have d1 := (hbw.cell (p := ⟨b, off + 1, none⟩) hBw).trans c1
  have HB2 : Hid (Below w.heap.size w w2) := hbw
  have HO2 : Hid (w2.ownsRow (w.heap.size + 1) 9 1 (.slice (some ⟨w.heap.size + 1, 0, none⟩) 1 1) [z_a3 k].length (strCells [z_a3 k])) := z_gD (z_m4 hb2) (Nat.le_refl _)
  clear hb2 hb2' hbw c0 c1 x0 x1 x4
  have hbl : b < w2.heap.size := by omega
  have hne : b ≠ w.heap.size + 1 := by omega
  go_wp2_with fail
  go_region_held3 (fun wx => wx.cell? ⟨w.heap.size, 2, none⟩ = some (.string name) ∧ wx.cell? ⟨w.heap.size, 3, none⟩ = some (.slice (some ⟨b, off, none⟩) 2 cap) ∧ wx.cell? ⟨b, off, none⟩ = some (.string p) ∧ wx.cell? ⟨b, off + 1, none⟩ = some (.string q))
    (first
      | (go_keep; done)
      | (go_split_ands
         refine ⟨?_, ?_, ?_, ?_⟩ <;> (rw [hgrow.cell_far _ (by simp; omega) (by first | (simp [Value.ownBlock]; done) | (simp [Value.ownBlock]; omega))]; assumption)))
    (first
      | (refine step_append_lies _ (by rfl) _ _ _ (by rfl) (w.heap.size + 1) 9 i0 _ 1 16 Tryz.underlying45 hi0 hz0 hz1 hz2 rfl (by omega) (.slice (some ⟨w.heap.size + 1, 0, none⟩) 1 1) 1 _ (by rfl) ((HO2.out.alloc _).drew) ⟨w2.heap.size, 0, none⟩ 3 3 [.string p, .string name, .string q] (by rfl) (by rfl) (World.news_of_block (cs := #[.string p, .string name, .string q]) (t := 9) (fr := (0, 0)) (heap_alloc_new w2 _)) (by simp [Value.oneCell']) (by omega) (by unfold maxLen; omega) (by omega) (by simp; omega) (w2.heap.size + 1) (by simp) ?_; intro gg c3 w3 hown3 hgrow hat hlt3))
  all_goals
    have hb3 : Below w.heap.size w w3 := HB2.out.trans ((z_b8 HO2.out (Below.refl _ _) (((Below.refl _ _).alloc (Nat.le_refl _) _).drew) (by omega) hgrow rfl).mono (by omega))
    have hown5 : w3.ownsRow (w.heap.size + 1) 9 1 (.slice (some ⟨gg, 0, none⟩) (outW k ⟨tq, name, [p, q], undo⟩).length c3) (outW k ⟨tq, name, [p, q], undo⟩).length (strCells (outW k ⟨tq, name, [p, q], undo⟩)) := by rw [HN.out]; exact hown3
    have hc5 := z_bR hown5
    have HC5 := z_bq hown5
    have h4 : (outW k ⟨tq, name, [p, q], undo⟩).length = 4 := by rw [HN.out]; rfl
    have HB3 : Hid (Below w.heap.size w w3) := hb3
    clear hown3 hgrow hat hown5 hb3
    go_wp2_with fail
    rw [HN.out] at HC5 hc5
    have HJ : (Lib.join (([z_a3 k] ++ [p, name, q]).map (·.data.toList)) [32]).length ≤ 140737488355328 := by
      have h1 := z_ht 1048576 _ HS.out
      rw [h4] at h1
      rw [← HN.out]
      omega
    refine (Tryz.strings_Join gg 0 c3 ([z_a3 k] ++ [p, name, q]) ⟨#[32]⟩ w3 HC5 hlt3 (by simp) hc5 HJ).mono ?_
    rintro e w6 ⟨rfl, hb6⟩
    have HB6 : Below w.heap.size w w6 := HB3.out.trans (hb6.mono HB3.out.size)
    clear hb6
    go_wp2
    go_ret
    exact ⟨by rw [HN.out]; rfl, HB6⟩
theorem z_dC (k : Int) (ao : Option Addr) (cap : Nat) (d : Bd) (w : World) (hk : branchK k = true → d.args.length = 2) (hcap : d.args.length ≤ cap) (hl : d.args.length ≤ 1048576) (hs : ∀ s ∈ outW k d, s.size ≤ 1048576)
  (hi : StrsAt 0 w.heap.size w ao d.args) :
  Calls Tryz.prog 124 #[.agg #[.int .i64 k, .string d.to, .string d.name, .slice ao d.args.length cap, .string d.undo]] w fun e w' => e = .returned (.string (z_cc (outW k d))) ∧ Below w.heap.size w w' := by
 cases hb : branchK k with
 | false => exact z_fv k ao cap d w hb hcap hl hs hi
 | true =>
  obtain ⟨tq, name, args, undo⟩ := d
  have h2 := hk hb
  match args, h2, hcap, hs, hi with
  | [p, q], _, hcap, hs, hi =>
   obtain ⟨b, off, rfl, _, _⟩ := hi 0 (by simp)
   exact writeLine_branch k b off cap tq name undo p q w hb hcap hs hi
end
section
theorem z_kd (s : ByteArray) : ∀ (n pos : Nat) (st : Int), 0 ≤ st → cutSp s n pos st ≠ []
 | 0, _, st, h => by rw [cutSp, if_pos h]; simp
 | n + 1, pos, st, h => by
  by_cases hb : s.get! pos = 32
  ·rw [cutSp, if_pos hb, if_pos h]; simp
  ·rw [cutSp, if_neg hb, if_neg (by omega)]; exact z_kd s n (pos + 1) st h
theorem z_l (s : ByteArray) (h0 : 0 < s.size) (hb : s.get! 0 ≠ 32) : wordsW s ≠ [] := by
 obtain ⟨n, hn⟩ : ∃ n, s.size = n + 1 := ⟨s.size - 1, by omega⟩
 rw [wordsW, hn, cutSp, if_neg hb, if_pos (by omega)]
 exact z_kd s n 1 0 (by omega)
theorem z_dg (s : ByteArray) : ∀ (n pos : Nat) (st : Int), ∀ x ∈ cutSp s n pos st, x.size ≤ s.size
 | 0, pos, st, x, hx => by
  rw [cutSp] at hx
  split at hx
  ·have : x = s.extract st.toNat s.size := by simpa using hx
   subst this; simp
  ·simp at hx
 | n + 1, pos, st, x, hx => by
  rw [cutSp] at hx
  split at hx
  ·split at hx
   ·rcases List.mem_cons.1 hx with rfl | h
    ·simp; omega
    ·exact z_dg s n _ _ x h
   ·exact z_dg s n _ _ x hx
  ·exact z_dg s n _ _ x hx
theorem z_cY (s : ByteArray) : ∀ (n pos : Nat) (st : Int), (cutSp s n pos st).length ≤ n + (if 0 ≤ st then 1 else 0)
 | 0, pos, st => by rw [cutSp]; split <;> simp
 | n + 1, pos, st => by
  rw [cutSp]
  split
  ·split
   ·have := z_cY s n (pos + 1) (-1); simp at this ⊢; omega
   ·have := z_cY s n (pos + 1) (-1); simp at this ⊢; omega
  ·by_cases h : st < 0
   ·have := z_cY s n (pos + 1) (pos : Int)
    rw [if_pos (show (0 : Int) ≤ (pos : Int) by omega)] at this
    rw [if_pos h, if_neg (by omega)]; omega
   ·have := z_cY s n (pos + 1) st
    rw [if_pos (show (0 : Int) ≤ st by omega)] at this
    rw [if_neg h, if_pos (by omega)]; omega
theorem z_fG (s : ByteArray) : ∀ x ∈ wordsW s, x.size ≤ s.size := z_dg s _ _ _
theorem z_f3 (s : ByteArray) : (wordsW s).length ≤ s.size := by
 have := z_cY s s.size 0 (-1)
 rw [if_neg (by omega)] at this
 exact this
def z_a7 (k : Int) (d : Bd) : List ByteArray := wordsW (z_cc (outW k d))
def z_br (k : Int) (d : Bd) : Bool :=
  decide (1 ≤ k ∧ k ≤ 15) && (!branchK k || decide (d.args.length = 2)) &&
  (match z_a7 k d with
   | [] => false
   | a :: r => match z_af (z_aN a) r with
     | none => false
     | some d' => z_a0 k (z_aN a) d d')
theorem z_mi (k : Int) (d : Bd) : ∃ r, outW k d = z_a3 k :: r := by
 rw [outW]; split <;> exact ⟨_, rfl⟩
theorem z_kW (M : Nat) (ws : List ByteArray) (h : ∀ s ∈ ws, s.size ≤ M) : (z_cc ws).size ≤ ws.length * (M + 1) := by
 have := z_ht M ws h
 show (Lib.join _ _).toArray.size ≤ _
 simpa using this
theorem z_mq (k : Int) (d : Bd) : (outW k d).length ≤ d.args.length + 6 := by
 rw [outW]
 have h1 := z_hv [d.to, d.name]
 have h2 := z_he d.undo
 simp at h1
 split
 ·simp
 ·simp only [List.length_append, List.length_cons]
  split <;> simp <;> omega
end
section
open Go.RowKit
theorem z_cm (w : World) (ss : List ByteArray) (t : TypeId) : StrsAt w.heap.size (w.alloc (.cells (strCells ss).toArray t)).heap.size (w.alloc (.cells (strCells ss).toArray t)) (some ⟨w.heap.size, 0, none⟩) ss := by
 intro k hk
 refine ⟨w.heap.size, 0, rfl, ⟨Nat.le_refl _, by simp⟩, ?_⟩
 rw [World.cell?_alloc_at _ _ _ _ rfl]
 simp [strCells, hk, List.getD]
def kindsS : List ByteArray := eS :: (List.range 15).map fun i : Nat => z_a3 ((i : Int) + 1)
theorem z_fg (k : Nat) (h1 : 1 ≤ k) (h2 : k < 16) : kindsS.getD k ByteArray.empty = z_a3 k := by
 obtain ⟨j, rfl⟩ : ∃ j, k = j + 1 := ⟨k - 1, by omega⟩
 have hj : j < 15 := by omega
 simp [kindsS, List.getD, hj]
theorem z_b1 (w : World) : Calls Tryz.prog 137 #[] w fun e w' => e = .returned (.slice (some ⟨w.heap.size, 0, none⟩) 16 16) ∧ Below w.heap.size w w' ∧ StrsAt w.heap.size w'.heap.size w' (some ⟨w.heap.size, 0, none⟩) kindsS := by
 have HS := z_cm w kindsS 9
 go_enter Tryz.func137, Tryz.ntmps137
 go_wp2
 go_ret
 exact ⟨rfl, (Below.refl _ _).alloc (Nat.le_refl _) _, HS⟩
def opsS : List ByteArray := [⟨#[105, 115]⟩, ⟨#[97, 100, 100]⟩, ⟨#[115, 117, 98]⟩, ⟨#[109, 117, 108]⟩]
def z_cw : List ByteArray := [⟨#[108, 101, 115, 115]⟩, ⟨#[115, 97, 109, 101]⟩, ⟨#[109, 111, 114, 101]⟩, ⟨#[111, 116, 104, 101, 114]⟩]
theorem z_ca (w : World) : Calls Tryz.prog 196 #[] w fun e w' => e = .returned (.slice (some ⟨w.heap.size, 0, none⟩) 4 4) ∧ Below w.heap.size w w' ∧ StrsAt w.heap.size w'.heap.size w' (some ⟨w.heap.size, 0, none⟩) opsS := by
 have HS := z_cm w opsS 9
 go_enter Tryz.func196, Tryz.ntmps196
 go_wp2
 go_ret
 exact ⟨rfl, (Below.refl _ _).alloc (Nat.le_refl _) _, HS⟩
theorem z_cs (w : World) : Calls Tryz.prog 179 #[] w fun e w' => e = .returned (.slice (some ⟨w.heap.size, 0, none⟩) 4 4) ∧ Below w.heap.size w w' ∧ StrsAt w.heap.size w'.heap.size w' (some ⟨w.heap.size, 0, none⟩) z_cw := by
 have HS := z_cm w z_cw 9
 go_enter Tryz.func179, Tryz.ntmps179
 go_wp2
 go_ret
 exact ⟨rfl, (Below.refl _ _).alloc (Nat.le_refl _) _, HS⟩
end
section
open Go.RowKit
def spB : ByteArray := ⟨#[32]⟩
theorem z_dc (a b : ByteArray) : (a ++ b).data.toList = a.data.toList ++ b.data.toList := by
 rw [ByteArray.data_append, Array.toList_append]
theorem z_aQ (a x : ByteArray) : wordsW ((a ++ spB) ++ x) = wordsW a ++ wordsW x := by
 rw [z_dd, z_dd, z_dd, z_dc, z_dc, List.append_assoc]
 exact z_gf _ _
def z_a6 (ws : List ByteArray) : List ByteArray := ws.flatMap wordsW
theorem z_dT (a b : List ByteArray) : z_a6 (a ++ b) = z_a6 a ++ z_a6 b := by simp [z_a6]
theorem z_bj (a : ByteArray) (b : List ByteArray) : z_a6 (a :: b) = wordsW a ++ z_a6 b := by simp [z_a6]
theorem z_cJ : z_a6 [] = [] := rfl
theorem z_c2 : ∀ (r : List ByteArray) (x : List UInt8), z_fF (x ++ Lib.joinTail [32] (r.map (·.data.toList))) = z_fF x ++ z_a6 r
 | [], x => by simp [Lib.joinTail, z_a6]
 | a :: r, x => by
  have e : x ++ Lib.joinTail [32] ((a :: r).map (·.data.toList)) = x ++ 32 :: (a.data.toList ++ Lib.joinTail [32] (r.map (·.data.toList))) := by
   simp [Lib.joinTail]
  rw [e, z_gf, z_c2 r, z_bj, z_dd]
theorem z_jm (ws : List ByteArray) : wordsW (z_cc ws) = z_a6 ws := by
 rw [z_dd, z_cc]
 show z_fF (Lib.join (ws.map (·.data.toList)) [32]) = _
 cases ws with
 | nil => rfl
 | cons a r => rw [List.map_cons, Lib.join_cons, z_c2, z_bj, z_dd]
theorem z_c {s : ByteArray} (h : s.size = 0) : wordsW s = [] := by rw [z_bD h]; rfl
theorem z_k9 (ms : List ByteArray) : z_a6 (z_ay ms) = z_a6 ms := by
 induction ms with
 | nil => rfl
 | cons a r ih =>
  rw [z_bj, ← ih]
  by_cases h : a.size = 0
  ·rw [z_c h, z_ay, List.filter_cons_of_neg (by simp only [decide_eq_true_eq]; omega)]; rfl
  ·rw [z_ay, List.filter_cons_of_pos (by simp only [decide_eq_true_eq]; omega), z_bj]; rfl
theorem z_f1 : wordsW forS = [forS] := by decide
theorem z_fz : wordsW z_ew = [z_ew] := by decide
theorem z_kQ (u : ByteArray) : z_a6 (z_cn u) = if u.size = 0 then [] else z_ew :: wordsW u := by
 rw [z_cn]
 split
 ·rfl
 ·rw [z_bj, z_bj, z_fz, z_cJ, List.append_nil]; rfl
theorem z_hj (a : ByteArray) : wordsW (a ++ ⟨#[32, 102, 111, 114]⟩) = wordsW a ++ [forS] := by
 have e : a ++ (⟨#[32, 102, 111, 114]⟩ : ByteArray) = (a ++ spB) ++ forS := by
  apply ByteArray.ext; apply Array.toList_inj.1; rw [z_dc, z_dc, z_dc]; simp [spB, forS]
 rw [e, z_aQ, z_f1]
theorem z_fR (a u : ByteArray) : wordsW ((a ++ ⟨#[32, 117, 110, 100, 111, 32]⟩) ++ u) = wordsW a ++ (z_ew :: wordsW u) := by
 have e : (a ++ (⟨#[32, 117, 110, 100, 111, 32]⟩ : ByteArray)) ++ u = (((a ++ spB) ++ z_ew) ++ spB) ++ u := by
  apply ByteArray.ext; apply Array.toList_inj.1; simp only [z_dc]; simp [spB, z_ew]
 rw [e, z_aQ, z_aQ, z_fz, List.append_assoc]; rfl
theorem z_io {k : Int} {d : Bd} (h : branchK k = true) : z_a6 (outW k d) = wordsW (z_a3 k) ++ (wordsW (d.args.getD 0 eS) ++ (wordsW d.name ++ wordsW (d.args.getD 1 eS))) := by
 rw [outW, if_pos h]; simp only [z_bj, z_cJ, List.append_nil]
theorem z_kN {k : Int} {d : Bd} (h : branchK k = false) : z_a6 (outW k d) = wordsW (z_a3 k) ++ (wordsW d.to ++ wordsW d.name) ++ (if k = 5 ∧ 0 < d.args.length then [forS] else []) ++ z_a6 d.args ++ (if d.undo.size = 0 then [] else z_ew :: wordsW d.undo) := by
 rw [outW, if_neg (by rw [h]; decide), z_dT, z_dT, z_dT, z_bj, z_k9, z_kQ]
 congr 3
 ·simp only [z_bj, z_cJ, List.append_nil]
 ·split
  ·rw [z_bj, z_f1]; rfl
  ·rfl
end
end Go.Proofs.YtlbjjbolbopfmaaGreatDoor
