import Derived.Test.YtlbjjbolbopfmaaGreatDoorH21
import Derived.Test.YtlbjjbolbopfmaaGreatDoorH20
namespace Go.Proofs.YtlbjjbolbopfmaaGreatDoor
set_option maxHeartbeats 4000000
set_option maxRecDepth 1000000
set_option linter.unusedVariables false
section
open Go.RowKit
section
variable {α : Type} (mk : Nat → α → α) (cnt : α → Nat)
def markP : Nat → List (α × Value) → List (α × Value)
 | _, [] => []
 | k, p :: r => (mk k p.1, p.2) :: markP (k + cnt p.1) r
def markEnd : Nat → List (α × Value) → Nat
 | k, [] => k
 | k, p :: r => markEnd (k + cnt p.1) r
theorem markP_len : ∀ (k : Nat) (ps : List (α × Value)), (markP mk cnt k ps).length = ps.length
 | _, [] => rfl
 | k, p :: r => by simp [markP, markP_len _ r]
theorem markEnd_succ : ∀ (k : Nat) (ps : List (α × Value)) (i : Nat) (h : i < ps.length), markEnd cnt k (ps.take (i + 1)) = markEnd cnt k (ps.take i) + cnt ps[i].1
 | _, [], _, h => by simp at h
 | k, p :: r, 0, _ => by simp [markEnd]
 | k, p :: r, i + 1, h => by
  have := markEnd_succ (k + cnt p.1) r i (by simpa using h)
  simpa [markEnd] using this
theorem markP_at : ∀ (k : Nat) (ps : List (α × Value)) (i : Nat) (h : i < (markP mk cnt k ps).length) (h' : i < ps.length), (markP mk cnt k ps)[i] = (mk (markEnd cnt k (ps.take i)) ps[i].1, ps[i].2)
 | _, [], _, h, _ => by simp [markP] at h
 | k, p :: r, 0, _, _ => by simp [markP, markEnd]
 | k, p :: r, i + 1, h, h' => by
  have h2 : i < r.length := by simpa using h'
  have := markP_at (k + cnt p.1) r i (by rw [markP_len]; exact h2) h2
  simpa [markP, markEnd] using this
def mixP (k : Nat) (ps : List (α × Value)) (i : Nat) : List (α × Value) := (markP mk cnt k ps).take i ++ ps.drop i
theorem mixP_len (k : Nat) (ps : List (α × Value)) (i : Nat) : (mixP mk cnt k ps i).length = ps.length := by
 unfold mixP; rw [List.length_append, List.length_take, List.length_drop, markP_len]; omega
theorem mixP_zero (k : Nat) (ps : List (α × Value)) : mixP mk cnt k ps 0 = ps := by simp [mixP]
theorem mixP_all (k : Nat) (ps : List (α × Value)) : mixP mk cnt k ps ps.length = markP mk cnt k ps := by
 unfold mixP; rw [List.drop_length, List.append_nil, List.take_of_length_le (by rw [markP_len]; exact Nat.le_refl _)]
theorem mixP_at (k : Nat) (ps : List (α × Value)) (i : Nat) (h : i < (mixP mk cnt k ps i).length) (h' : i < ps.length) : (mixP mk cnt k ps i)[i] = ps[i] := by
 have hl : ((markP mk cnt k ps).take i).length = i := by rw [List.length_take, markP_len]; omega
 have e : (mixP mk cnt k ps i)[i]? = some ps[i] := by
  unfold mixP
  rw [List.getElem?_append_right (by omega), hl, Nat.sub_self, List.drop_eq_getElem_cons h']; rfl
 exact Option.some.inj ((List.getElem?_eq_getElem h).symm.trans e)
theorem mixP_set (k : Nat) (ps : List (α × Value)) (i : Nat) (h : i < ps.length) : (mixP mk cnt k ps i).set i (mk (markEnd cnt k (ps.take i)) ps[i].1, ps[i].2) = mixP mk cnt k ps (i + 1) := by
 unfold mixP
 have hl : ((markP mk cnt k ps).take i).length = i := by rw [List.length_take, markP_len]; omega
 have hm : i < (markP mk cnt k ps).length := by rw [markP_len]; exact h
 rw [List.set_append_right _ _ (by omega), hl, Nat.sub_self, List.drop_eq_getElem_cons h, List.set_cons_zero, List.take_succ_eq_append_getElem hm, markP_at mk cnt k ps i hm h, List.append_assoc]; rfl
theorem markEnd_le {k b : Nat} {ps : List (α × Value)} (i : Nat) (h : markEnd cnt k ps ≤ b) : markEnd cnt k (ps.take i) ≤ b := by
 have hm : ∀ (ps : List (α × Value)) (k : Nat), k ≤ markEnd cnt k ps := by
  intro ps
  induction ps with
  | nil => intro k; exact Nat.le_refl _
  | cons p r ih => intro k; have := ih (k + cnt p.1); simp only [markEnd]; omega
 have ha : ∀ (a c : List (α × Value)) (k : Nat), markEnd cnt k (a ++ c) = markEnd cnt (markEnd cnt k a) c := by
  intro a c
  induction a with
  | nil => intro k; rfl
  | cons p r ih => intro k; simp only [List.cons_append, markEnd, ih]
 have h1 := ha (ps.take i) (ps.drop i) k
 rw [List.take_append_drop] at h1
 have h2 := hm (ps.drop i) (markEnd cnt k (ps.take i))
 omega
end
theorem apart_vals {α : Type} {ps qs : List (α × Value)} (h : ps.map (·.2) = qs.map (·.2)) (hp : ps.Pairwise fun p q => ∀ k, p.2.ownBlock = some k → q.2.ownBlock ≠ some k) : qs.Pairwise fun p q => ∀ k, p.2.ownBlock = some k → q.2.ownBlock ≠ some k := by
 have h1 : (ps.map (·.2)).Pairwise fun (a b : Value) => ∀ k, a.ownBlock = some k → b.ownBlock ≠ some k := List.pairwise_map.2 hp
 rw [h] at h1
 exact List.pairwise_map.1 h1
section
variable {β : Type} {F : β → List Value} {K : Nat} {w : World} {base n cap g : Nat} {T : TypeId} {ms : List β} {i : Nat} {q q' : β}
theorem row_set (hF : ∀ b, (F b).length = K) (h : w.ownsRow base T K (.slice (some ⟨g, 0, none⟩) n cap) n ((ms.set i q).flatMap F)) (hi : i < ms.length) (j : Nat) (hj : j < K) (u : Value) (hq : F q' = (F q).set j u) :
  (w.setCell ⟨g, i * K + j, none⟩ u).ownsRow base T K (.slice (some ⟨g, 0, none⟩) n cap) n ((ms.set i q').flatMap F) := by
 have h1 := own_set h (i * K + j) u
 rw [flat_set hF u q' (ms.set i q) i j (by simpa using hi) hj (by simpa using hq), List.set_set] at h1
 exact h1
theorem row_cell (hF : ∀ b, (F b).length = K) (h : w.ownsRow base T K (.slice (some ⟨g, 0, none⟩) n cap) n ((ms.set i q).flatMap F)) (hn : ms.length = n) (hi : i < ms.length) (j : Nat) (hj : j < K) (u : Value) (hu : (F q)[j]? = some u) : w.cell? ⟨g, i * K + j, none⟩ = some u := by
 have hlt : i * K + j < n * K := by
  have : (i + 1) * K ≤ n * K := Nat.mul_le_mul_right _ (by omega)
  rw [Nat.succ_mul] at this; omega
 rw [h.cellAt _ hlt, flat_at hF (ms.set i q) i j (by simpa using hi) hj]
 simpa using hu
end
theorem OwnSt.step {α : Type} {T : TypeId} {K : Nat} {f : α → Value → List Value} {ar : α → List ByteArray} {base : Nat} {w w' : World} {v : Value} {ms : List (α × Value)} (h : OwnSt T K f ar base w v ms) (hT : T ≠ 9) {j : Nat} (hj : j < ms.length) {q : α × Value} (hv : q.2 = ms[j].2)
  (hrow : w'.ownsRow base T K v ms.length ((ms.set j q).flatMap fun p => f p.1 p.2)) (hargs : w'.ownsRow base 9 1 q.2 (ar q.1).length (strCells (ar q.1))) (hi : Inn (fun b => v.ownBlock = some b ∨ q.2.ownBlock = some b) w w') : OwnSt T K f ar base w' v (ms.set j q) := by
 have hvals : ms.map (·.2) = (ms.set j q).map (·.2) := by
  rw [List.map_set]
  apply List.ext_getElem (by simp)
  intro n h3 h4
  rw [List.getElem_set]
  split
  ·rename_i e; subst e; simp [hv]
  ·rfl
 refine ⟨by rw [List.length_set]; exact hrow, fun x hx => ?_, apart_vals hvals h.apart⟩
 obtain ⟨i, hi2, rfl⟩ := List.getElem_of_mem hx
 rw [List.getElem_set]
 split
 ·exact hargs
 ·rename_i hne
  have hi3 : i < ms.length := by simpa using hi2
  refine hi.own (h.args _ (List.getElem_mem hi3)) fun k hk hs => ?_
  rcases hs with hs | hs
  ·exact own_types h.row (h.args _ (List.getElem_mem hi3)) hT k hs hk
  ·rw [hv] at hs
   have hp := List.pairwise_iff_getElem.1 h.apart
   rcases Nat.lt_or_gt_of_ne hne with hl | hl
   ·exact hp j i hj hi3 hl k hs hk
   ·exact hp i j hi3 hj hl k hk hs
end
section
open Go.RowKit
def markLn (k : Nat) (l : Ln) : Ln := ((k : Int), ⟨markT (k + 1), markT (k + 2), marksS (k + 3) l.2.args.length, markT (k + 3 + l.2.args.length)⟩)
def markLnN (l : Ln) : Nat := l.2.args.length + 4
def lnF (p : Ln × Value) : List Value := lnC p.1 p.2
theorem lnF_len (p : Ln × Value) : (lnF p).length = 5 := rfl
theorem markFlowLineS_any (v : Value) (ps : List (Ln × Value)) (base k : Nat) (w : World) (hk : markEnd markLnN k ps ≤ 4000000000) (hl : ps.length ≤ 1048576) (ho : OwnLn base w v ps) :
  Calls Tryz.prog 15 #[v, .int .i64 k] w fun e w' => e = .returned (.int .i64 (markEnd markLnN k ps : Nat)) ∧ OwnLn base w' v (markP markLn markLnN k ps) ∧ Inn (blocksOf v ps) w w' := by
 obtain ⟨vo, vc, rfl, _⟩ := own_form ho.row
 have HO : Hid (OwnLn base w (.slice vo ps.length vc) ps) := ho
 have HK : Hid (markEnd markLnN k ps ≤ 4000000000) := hk
 clear ho hk
 go_enter Tryz.func15, Tryz.ntmps15
 go_wp2
 go_loopw [1, 5] (fun y i wr => ∃ j : Nat, j ≤ ps.length ∧ i = .int .i64 j ∧ y = .int .i64 (markEnd markLnN k (ps.take j) : Nat) ∧ Hid (OwnLn base wr (.slice vo ps.length vc) (mixP markLn markLnN k ps j)) ∧ Hid (Inn (blocksOf (.slice vo ps.length vc) ps) w wr)) (fun _ i _ => ps.length - (intOf i).toNat)
 case atStart => exact ⟨0, Nat.zero_le _, rfl, rfl, by rw [mixP_zero]; exact HO, Inn.refl⟩
 case round =>
  obtain ⟨j, hj, rfl, rfl, HR, HI⟩ := hrel
  by_cases hlt : j < ps.length
  ·have hml := mixP_len markLn markLnN k ps j
   have HML : Hid ((mixP markLn markLnN k ps j).length = ps.length) := hml
   obtain ⟨g, rfl⟩ : ∃ g, vo = some ⟨g, 0, none⟩ := by
    rcases HR.out.row.2 with ⟨_, h⟩ | ⟨g, cap, cur, h, _⟩
    ·omega
    ·simp only [Value.slice.injEq] at h; exact ⟨g, h.1⟩
   have hjm : j < (mixP markLn markLnN k ps j).length := by rw [hml]; exact hlt
   have hat := mixP_at markLn markLnN k ps j hjm hlt
   obtain ⟨p, hp⟩ : ∃ p, p = ps[j] := ⟨_, rfl⟩
   obtain ⟨l, u⟩ := p
   have HP : Hid ((l, u) = ps[j]) := hp
   have hargs : wr.ownsRow base 9 1 u l.2.args.length (strCells l.2.args) := HR.out.args (l, u) (by rw [hp, ← hat]; exact List.getElem_mem hjm)
   have HSelf : Hid ((mixP markLn markLnN k ps j).set j (l, u) = mixP markLn markLnN k ps j) := by
    show _ = _
    apply List.ext_getElem (by simp)
    intro n h3 h4
    rw [List.getElem_set]
    split
    ·rename_i e; subst e; rw [hp, ← hat]
    ·rfl
   have HMs : Hid ((mixP markLn markLnN k ps j).set j (markLn (markEnd markLnN k (ps.take j)) l, u) = mixP markLn markLnN k ps (j + 1)) := by
    have := mixP_set markLn markLnN k ps j hlt
    rw [← hp] at this
    exact this
   have HSucc : Hid (markEnd markLnN k (ps.take (j + 1)) = markEnd markLnN k (ps.take j) + markLnN l) := by
    have := markEnd_succ markLnN k ps j hlt
    rw [← hp] at this
    exact this
   clear hat
   have hkb := markEnd_le markLnN (j + 1) HK.out
   rw [HSucc.out] at hkb
   obtain ⟨kk, hkk⟩ : ∃ kk, kk = markEnd markLnN k (ps.take j) := ⟨_, rfl⟩
   rw [← hkk] at HMs HSucc hkb ⊢
   obtain ⟨ms, hms⟩ : ∃ ms, ms = mixP markLn markLnN k ps j := ⟨_, rfl⟩
   rw [← hms] at HR HMs HML hjm HSelf
   obtain ⟨uo, uc, rfl, huc⟩ := own_form hargs
   obtain ⟨kd, d⟩ := l
   simp only at hargs huc hkb
   have hkd : kk + d.args.length + 4 ≤ 4000000000 := by simpa [markLnN, Nat.add_assoc] using hkb
   have hrow0 : wr.ownsRow base 49 5 (.slice (some ⟨g, 0, none⟩) ps.length vc) ps.length ((ms.set j ((kd, d), .slice uo d.args.length uc)).flatMap lnF) := by
    have h1 := HR.out.row
    rw [HML.out] at h1
    rw [HSelf.out]; exact h1
   have hne : ∀ (wx : World) (xs : List Value) (ys : List ByteArray), wx.ownsRow base 49 5 (.slice (some ⟨g, 0, none⟩) ps.length vc) ps.length xs → wx.ownsRow base 9 1 (.slice uo d.args.length uc) d.args.length (strCells ys) → (Value.slice uo d.args.length uc).ownBlock ≠ some g := fun wx xs ys h1 h2 => own_types h1 h2 (by decide) g rfl
   have hng := hne _ _ _ hrow0 hargs
   have HARGS : Hid (wr.ownsRow base 9 1 (.slice uo d.args.length uc) d.args.length (strCells d.args)) := hargs
   have HROW0 : Hid (wr.ownsRow base 49 5 (.slice (some ⟨g, 0, none⟩) ps.length vc) ps.length ((ms.set j ((kd, d), .slice uo d.args.length uc)).flatMap lnF)) := hrow0
   have hc0 := row_cell lnF_len hrow0 HML.out hjm 0 (by decide) _ rfl
   rw [Nat.add_zero] at hc0
   have hf0 := hrow0.frozenAt
   have hrow1 : (wr.setCell ⟨g, j * 5, none⟩ (.int .i64 kk)).ownsRow base 49 5 (.slice (some ⟨g, 0, none⟩) ps.length vc) ps.length ((ms.set j (((kk : Int), d), .slice uo d.args.length uc)).flatMap lnF) := row_set lnF_len hrow0 hjm 0 (by decide) _ rfl
   have HROW1 : Hid ((wr.setCell ⟨g, j * 5, none⟩ (.int .i64 kk)).ownsRow base 49 5 (.slice (some ⟨g, 0, none⟩) ps.length vc) ps.length ((ms.set j (((kk : Int), d), .slice uo d.args.length uc)).flatMap lnF)) := hrow1
   have HI1 : Hid (Inn (fun b => (Value.slice (some ⟨g, 0, none⟩) ps.length vc).ownBlock = some b ∨ (Value.slice uo d.args.length uc).ownBlock = some b) wr (wr.setCell ⟨g, j * 5, none⟩ (.int .i64 kk))) := Inn.of_grown (grown_setCell g _ _) (fun b hb => by cases hb; exact .inl rfl)
   have HA1 : Hid ((wr.setCell ⟨g, j * 5, none⟩ (.int .i64 kk)).ownsRow base 9 1 (.slice uo d.args.length uc) d.args.length (strCells d.args)) := own_set_far hargs hng _
   clear hrow0 hrow1 hargs hne hms hkk hml
   go_wp2_with fail
   refine (markText_any (kk + 1) _ (by omega)).mono ?_
   rintro e w2 ⟨rfl, hb2⟩
   have hrow2 := own_below HROW1.out hb2
   have hc2 := row_cell lnF_len hrow2 HML.out hjm 1 (by decide) _ rfl
   have hf2 := hrow2.frozenAt
   have HROW2 : Hid ((w2.setCell ⟨g, j * 5 + 1, none⟩ (.string (markT (kk + 1)))).ownsRow base 49 5 (.slice (some ⟨g, 0, none⟩) ps.length vc) ps.length ((ms.set j (((kk : Int), ⟨markT (kk + 1), d.name, d.args, d.undo⟩), .slice uo d.args.length uc)).flatMap lnF)) := row_set lnF_len hrow2 hjm 1 (by decide) _ rfl
   have HI2 : Hid (Inn (fun b => (Value.slice (some ⟨g, 0, none⟩) ps.length vc).ownBlock = some b ∨ (Value.slice uo d.args.length uc).ownBlock = some b) wr (w2.setCell ⟨g, j * 5 + 1, none⟩ (.string (markT (kk + 1))))) := (HI1.out.trans (Inn.of_below hb2)).trans (Inn.of_grown (grown_setCell g _ _) (fun b hb => by cases hb; exact .inl rfl))
   have HA2 : Hid ((w2.setCell ⟨g, j * 5 + 1, none⟩ (.string (markT (kk + 1)))).ownsRow base 9 1 (.slice uo d.args.length uc) d.args.length (strCells (d.args))) := own_set_far (own_below HA1.out hb2) hng _
   clear hrow2 hb2
   go_wp2_with fail
   refine (markText_any (kk + 2) _ (by omega)).mono ?_
   rintro e w3 ⟨rfl, hb3⟩
   have hrow3 := own_below HROW2.out hb3
   have hc3 := row_cell lnF_len hrow3 HML.out hjm 2 (by decide) _ rfl
   have hf3 := hrow3.frozenAt
   have HROW3 : Hid ((w3.setCell ⟨g, j * 5 + 2, none⟩ (.string (markT (kk + 2)))).ownsRow base 49 5 (.slice (some ⟨g, 0, none⟩) ps.length vc) ps.length ((ms.set j (((kk : Int), ⟨markT (kk + 1), markT (kk + 2), d.args, d.undo⟩), .slice uo d.args.length uc)).flatMap lnF)) := row_set lnF_len hrow3 hjm 2 (by decide) _ rfl
   have HI3 : Hid (Inn (fun b => (Value.slice (some ⟨g, 0, none⟩) ps.length vc).ownBlock = some b ∨ (Value.slice uo d.args.length uc).ownBlock = some b) wr (w3.setCell ⟨g, j * 5 + 2, none⟩ (.string (markT (kk + 2))))) := (HI2.out.trans (Inn.of_below hb3)).trans (Inn.of_grown (grown_setCell g _ _) (fun b hb => by cases hb; exact .inl rfl))
   have HA3 : Hid ((w3.setCell ⟨g, j * 5 + 2, none⟩ (.string (markT (kk + 2)))).ownsRow base 9 1 (.slice uo d.args.length uc) d.args.length (strCells (d.args))) := own_set_far (own_below HA2.out hb3) hng _
   have hd3 := row_cell lnF_len hrow3 HML.out hjm 3 (by decide) _ rfl
   clear hrow3 hb3
   go_wp2_with fail
   refine (markStringS_any (.slice uo d.args.length uc) d.args base (kk + 3) _ (by omega) HA3.out).mono ?_
   rintro e w4 ⟨rfl, ho4, hi4⟩
   have HROW4 : Hid (w4.ownsRow base 49 5 (.slice (some ⟨g, 0, none⟩) ps.length vc) ps.length ((ms.set j (((kk : Int), ⟨markT (kk + 1), markT (kk + 2), d.args, d.undo⟩), .slice uo d.args.length uc)).flatMap lnF)) := hi4.own HROW3.out (fun b hb hx => hng (by rw [hx]; exact hb.symm ▸ rfl))
   have HA4 : Hid (w4.ownsRow base 9 1 (.slice uo d.args.length uc) d.args.length (strCells (marksS (kk + 3) d.args.length))) := ho4
   have HI4 : Hid (Inn (fun b => (Value.slice (some ⟨g, 0, none⟩) ps.length vc).ownBlock = some b ∨ (Value.slice uo d.args.length uc).ownBlock = some b) wr w4) := HI3.out.trans (hi4.mono fun b _ hb => .inr hb)
   clear ho4 hi4
   go_wp2_with fail
   refine (markText_any (kk + 3 + d.args.length) _ (by omega)).mono ?_
   rintro e w5 ⟨rfl, hb5⟩
   have hrow5 := own_below HROW4.out hb5
   have hc5 := row_cell lnF_len hrow5 HML.out hjm 4 (by decide) _ rfl
   have hf5 := hrow5.frozenAt
   have HROW5 : Hid ((w5.setCell ⟨g, j * 5 + 4, none⟩ (.string (markT (kk + 3 + d.args.length)))).ownsRow base 49 5 (.slice (some ⟨g, 0, none⟩) ps.length vc) ps.length ((ms.set j (((kk : Int), ⟨markT (kk + 1), markT (kk + 2), marksS (kk + 3) d.args.length, markT (kk + 3 + d.args.length)⟩), .slice uo d.args.length uc)).flatMap lnF)) := row_set lnF_len hrow5 hjm 4 (by decide) _ rfl
   have HI5 : Hid (Inn (fun b => (Value.slice (some ⟨g, 0, none⟩) ps.length vc).ownBlock = some b ∨ (Value.slice uo d.args.length uc).ownBlock = some b) wr (w5.setCell ⟨g, j * 5 + 4, none⟩ (.string (markT (kk + 3 + d.args.length))))) := (HI4.out.trans (Inn.of_below hb5)).trans (Inn.of_grown (grown_setCell g _ _) (fun b hb => by cases hb; exact .inl rfl))
   have HA5 : Hid ((w5.setCell ⟨g, j * 5 + 4, none⟩ (.string (markT (kk + 3 + d.args.length)))).ownsRow base 9 1 (.slice uo d.args.length uc) d.args.length (strCells (marksS (kk + 3) d.args.length))) := own_set_far (own_below HA4.out hb5) hng _
   have HF : Hid (OwnLn base (w5.setCell ⟨g, j * 5 + 4, none⟩ (.string (markT (kk + 3 + d.args.length)))) (.slice (some ⟨g, 0, none⟩) ps.length vc) (mixP markLn markLnN k ps (j + 1))) := by
    show OwnSt _ _ _ _ _ _ _ _
    rw [← HMs.out]
    have hself : ms[j].2 = .slice uo d.args.length uc := by
     have h1 := congrArg (fun l => l[j]?) HSelf.out
     simp only [List.getElem?_set_self hjm, List.getElem?_eq_getElem hjm, Option.some.injEq] at h1
     rw [← h1]
    refine HR.out.step (by decide) hjm (q := (markLn kk (kd, d), .slice uo d.args.length uc)) hself.symm (by rw [HML.out]; exact HROW5.out) ?_ HI5.out
    have h5 := HA5.out
    rw [show d.args.length = (marksS (kk + 3) d.args.length).length from (marksS_len _ _).symm] at h5
    simpa [lnA, markLn, marksS_len] using HA5.out
   have HI6 : Hid (Inn (blocksOf (.slice (some ⟨g, 0, none⟩) ps.length vc) ps) w (w5.setCell ⟨g, j * 5 + 4, none⟩ (.string (markT (kk + 3 + d.args.length))))) := HI.out.trans (HI5.out.mono fun b _ hb => by
    rcases hb with hb | hb
    ·exact .inl hb
    ·exact .inr ⟨((kd, d), .slice uo d.args.length uc), by rw [HP.out]; exact List.getElem_mem hlt, hb⟩)
   clear hrow5 hb5 hp
   go_wp2
   go_roundw
   case rel => exact ⟨j + 1, by omega, by go_num, by rw [HSucc.out]; simp only [markLnN]; go_num, HF, HI6⟩
   case measure => simp [intOf]; omega
  ·have e : j = ps.length := by omega
   subst e
   have HF : Hid (OwnLn base wr (.slice vo ps.length vc) (markP markLn markLnN k ps)) := by
    have := HR.out
    rw [mixP_all] at this
    exact this
   rw [List.take_length]
   go_wp2
   go_ret
   exact ⟨rfl, HF.out, HI.out⟩
end
section
open Go.RowKit
theorem l1Made_operand_none (k : Nat) (hk : k = 4 ∨ k = 12 ∨ k = 13) (ao : Option Addr) (c : Nat) (ws : List ByteArray) (w : World) (hl : ws.length ≤ 4398046511000) (h1 : ¬ ws.length = 1) (hc : ws.length ≤ c) (hi : StrsAt 0 w.heap.size w ao ws) :
  Calls Tryz.prog 171 #[.int .i64 k, .slice ao ws.length c] w (MadeE w k ws) := by
 have HN : Hid (readP (k : Int) ws = none) := by
  have : readP (k : Int) ws = pOperand ws := by rcases hk with rfl | rfl | rfl <;> rfl
  show _ = _; rw [this, pOperand, if_neg h1]
 have HI : Hid (StrsAt 0 w.heap.size w ao ws) := hi
 have HC : Hid (ws.length ≤ c) := hc
 have h0 : ((ws.length : Int) == 1) = false := by simp; omega
 clear hi hc
 rcases hk with rfl | rfl | rfl
 all_goals
  go_enter Tryz.func171, Tryz.ntmps171
  go_wp2_with fail
  go_region
  go_wp2_with fail
  refine bodyPost_ret (v := .tuple #[.agg #[.int .i64 _, .string ⟨#[]⟩, .string ⟨#[]⟩, .slice ao ws.length c, .string ⟨#[]⟩], .bool false]) (by simp [results, Tryz.results171, go_sem]; rfl) rfl ?_
  exact made_no (below_two _ _ _).drew HC.out (HI.out.later (below_two _ _ _).drew) HN.out (Nat.le_refl _)
theorem one_word {ws : List ByteArray} (h : ws.length = 1) : ∃ x, ws = [x] := by
 match ws, h with
 | [x], _ => exact ⟨x, rfl⟩
theorem l1Made_patch (ao : Option Addr) (c : Nat) (ws : List ByteArray) (w : World) (hl : ws.length ≤ 4398046511000) (hz : ∀ s ∈ ws, s.size ≤ 4398046511104) (hi : StrsAt 0 w.heap.size w ao ws) :
  Calls Tryz.prog 171 #[.int .i64 (14 : Nat), .slice ao ws.length c] w (MadeE w (14 : Nat) ws) := by
 by_cases h1 : ws.length = 1
 ·obtain ⟨x, rfl⟩ := one_word h1
  obtain ⟨b, off, rfl, hB, hc⟩ := hi.at 0 (by simp)
  have hx := hz x (by simp)
  have c0 : w.cell? ⟨b, off, none⟩ = some (.string x) := hc
  have hb0 : b < w.heap.size := hB.2
  clear hi hz hc hl h1
  rw [List.length_singleton]
  cases hn : nameB x with
  | true =>
   have HN : Hid (readP ((14 : Nat) : Int) [x] = some ⟨eS, x, [], eS⟩) := by show pPatch [x] = _; rw [pPatch, if_pos hn]
   go_enter Tryz.func171, Tryz.ntmps171
   go_wp2_with (go_at_call 140; refine (l1NameOk_any x _ (by omega)).mono ?_; rintro e wx ⟨rfl, rfl⟩; rw [hn])
   refine bodyPost_ret (v := .tuple #[.agg #[.int .i64 _, .string ⟨#[]⟩, .string x, .slice none 0 0, .string ⟨#[]⟩], .bool true]) (by simp [results, Tryz.results171, go_sem]; rfl) rfl ?_
   exact made_yes (args := []) (below_two _ _ _) (Nat.le_refl _) (StrsAt.nil _ _ _ _) HN.out (Nat.zero_le _)
  | false =>
   have HN : Hid (readP ((14 : Nat) : Int) [x] = none) := by show pPatch [x] = _; rw [pPatch, if_neg (by rw [hn]; exact Bool.noConfusion)]
   go_enter Tryz.func171, Tryz.ntmps171
   go_wp2_with (go_at_call 140; refine (l1NameOk_any x _ (by omega)).mono ?_; rintro e wx ⟨rfl, rfl⟩; rw [hn])
   refine bodyPost_ret (v := .tuple #[.agg #[.int .i64 _, .string ⟨#[]⟩, .string ⟨#[]⟩, .slice none 0 0, .string ⟨#[]⟩], .bool false]) (by simp [results, Tryz.results171, go_sem]; rfl) rfl ?_
   exact made_no (args := []) (below_two _ _ _) (Nat.le_refl _) (StrsAt.nil _ _ _ _) HN.out (Nat.zero_le _)
 ·have HN : Hid (readP ((14 : Nat) : Int) ws = none) := by
   show pPatch ws = _
   match ws, h1 with
   | [], _ => rfl
   | [x], h => exact absurd rfl h
   | _ :: _ :: _, _ => rfl
  have h0 : ((ws.length : Int) != 1) = true := by simp; omega
  clear hi hz h1
  go_enter Tryz.func171, Tryz.ntmps171
  go_wp2
  refine bodyPost_ret (v := .tuple #[.agg #[.int .i64 _, .string ⟨#[]⟩, .string ⟨#[]⟩, .slice none 0 0, .string ⟨#[]⟩], .bool false]) (by simp [results, Tryz.results171, go_sem]; rfl) rfl ?_
  exact made_no (args := []) (below_two _ _ _) (Nat.le_refl _) (StrsAt.nil _ _ _ _) HN.out (Nat.zero_le _)
theorem l1Made_next (ao : Option Addr) (c : Nat) (ws : List ByteArray) (w : World) (hl : ws.length ≤ 4398046511000) (hc : ws.length ≤ c) (hz : ∀ s ∈ ws, s.size ≤ 9223372036854775807) (hi : StrsAt 0 w.heap.size w ao ws) :
  Calls Tryz.prog 171 #[.int .i64 (15 : Nat), .slice ao ws.length c] w (MadeE w (15 : Nat) ws) := by
 have HI : Hid (StrsAt 0 w.heap.size w ao ws) := hi
 have HZ : Hid (∀ s ∈ ws, s.size ≤ 9223372036854775807) := hz
 have HC : Hid (ws.length ≤ c) := hc
 clear hi hz
 by_cases h3 : ws.length ≤ 3
 ·have h0 : decide ((ws.length : Int) ≤ 3) = true := by simp; omega
  cases ha : allB operB ws with
  | true =>
   have HN : Hid (readP ((15 : Nat) : Int) ws = some ⟨eS, eS, ws, eS⟩) := by show pNext ws = _; rw [pNext, if_pos ⟨h3, ha⟩]
   go_enter Tryz.func171, Tryz.ntmps171
   go_wp2_with fail
   go_region_with (go_at_call 197; refine (l1Operands_any ao c ws w.heap.size _ (by omega) HZ.out (HI.out.below (below_two _ _ _).drew)).mono ?_; rintro e wx ⟨rfl, rfl⟩; rw [ha])
   all_goals
    go_wp2_with fail
    refine bodyPost_ret (v := .tuple #[.agg #[.int .i64 _, .string ⟨#[]⟩, .string ⟨#[]⟩, .slice ao ws.length c, .string ⟨#[]⟩], .bool true]) (by simp [results, Tryz.results171, go_sem]; rfl) rfl ?_
    exact made_yes (below_two _ _ _).drew HC.out (HI.out.later (below_two _ _ _).drew) HN.out (Nat.le_refl _)
  | false =>
   have HN : Hid (readP ((15 : Nat) : Int) ws = none) := by show pNext ws = _; rw [pNext, if_neg (fun h => by rw [ha] at h; exact Bool.noConfusion h.2)]
   go_enter Tryz.func171, Tryz.ntmps171
   go_wp2_with fail
   go_region_with (go_at_call 197; refine (l1Operands_any ao c ws w.heap.size _ (by omega) HZ.out (HI.out.below (below_two _ _ _).drew)).mono ?_; rintro e wx ⟨rfl, rfl⟩; rw [ha])
   all_goals
    go_wp2_with fail
    refine bodyPost_ret (v := .tuple #[.agg #[.int .i64 _, .string ⟨#[]⟩, .string ⟨#[]⟩, .slice ao ws.length c, .string ⟨#[]⟩], .bool false]) (by simp [results, Tryz.results171, go_sem]; rfl) rfl ?_
    exact made_no (below_two _ _ _).drew HC.out (HI.out.later (below_two _ _ _).drew) HN.out (Nat.le_refl _)
 ·have h0 : decide ((ws.length : Int) ≤ 3) = false := by simp; omega
  have HN : Hid (readP ((15 : Nat) : Int) ws = none) := by show pNext ws = _; rw [pNext, if_neg (fun h => h3 h.1)]
  go_enter Tryz.func171, Tryz.ntmps171
  go_wp2_with fail
  go_region
  all_goals
   go_wp2_with fail
   refine bodyPost_ret (v := .tuple #[.agg #[.int .i64 _, .string ⟨#[]⟩, .string ⟨#[]⟩, .slice ao ws.length c, .string ⟨#[]⟩], .bool false]) (by simp [results, Tryz.results171, go_sem]; rfl) rfl ?_
   exact made_no (below_two _ _ _).drew HC.out (HI.out.later (below_two _ _ _).drew) HN.out (Nat.le_refl _)
end
end Go.Proofs.YtlbjjbolbopfmaaGreatDoor
