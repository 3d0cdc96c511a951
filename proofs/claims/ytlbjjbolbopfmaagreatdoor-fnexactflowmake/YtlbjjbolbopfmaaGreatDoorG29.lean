import Derived.Test.YtlbjjbolbopfmaaGreatDoorG22
import Derived.Test.YtlbjjbolbopfmaaGreatDoorG28
namespace Go.Proofs.YtlbjjbolbopfmaaGreatDoor
set_option maxHeartbeats 8000000
set_option maxRecDepth 1000000
set_option linter.unusedVariables false
section
open Go.RowKit
def markSt (k : Nat) (l : Stp) : Stp := ⟨(k : Int), markT (k + 1), markT (k + 2), marksS (k + 3) l.args.length, markT (k + 3 + l.args.length), (k + 3 + l.args.length + 1 : Nat), (k + 3 + l.args.length + 2 : Nat)⟩
def markStN (l : Stp) : Nat := l.args.length + 6
def stF (p : Stp × Value) : List Value := stC p.1 p.2
theorem stF_len (p : Stp × Value) : (stF p).length = 7 := rfl
theorem markFlowStepS_any (v : Value) (ps : List (Stp × Value)) (base k : Nat) (w : World) (hk : markEnd markStN k ps ≤ 4000000000) (hl : ps.length ≤ 1048576) (ho : OwnStp base w v ps) :
  Calls Tryz.prog 16 #[v, .int .i64 k] w fun e w' => e = .returned (.int .i64 (markEnd markStN k ps : Nat)) ∧ OwnStp base w' v (markP markSt markStN k ps) ∧ Inn (blocksOf v ps) w w' := by
 obtain ⟨vo, vc, rfl, _⟩ := own_form ho.row
 have HO : Hid (OwnStp base w (.slice vo ps.length vc) ps) := ho
 have HK : Hid (markEnd markStN k ps ≤ 4000000000) := hk
 clear ho hk
 go_enter Tryz.func16, Tryz.ntmps16
 go_wp2
 go_loopw [1, 5] (fun y i wr => ∃ j : Nat, j ≤ ps.length ∧ i = .int .i64 j ∧ y = .int .i64 (markEnd markStN k (ps.take j) : Nat) ∧ Hid (OwnStp base wr (.slice vo ps.length vc) (mixP markSt markStN k ps j)) ∧ Hid (Inn (blocksOf (.slice vo ps.length vc) ps) w wr)) (fun _ i _ => ps.length - (intOf i).toNat)
 case atStart => exact ⟨0, Nat.zero_le _, rfl, rfl, by rw [mixP_zero]; exact HO, Inn.refl⟩
 case round =>
  obtain ⟨j, hj, rfl, rfl, HR, HI⟩ := hrel
  by_cases hlt : j < ps.length
  ·have hml := mixP_len markSt markStN k ps j
   have HML : Hid ((mixP markSt markStN k ps j).length = ps.length) := hml
   obtain ⟨g, rfl⟩ : ∃ g, vo = some ⟨g, 0, none⟩ := by
    rcases HR.out.row.2 with ⟨_, h⟩ | ⟨g, cap, cur, h, _⟩
    ·omega
    ·simp only [Value.slice.injEq] at h; exact ⟨g, h.1⟩
   have hjm : j < (mixP markSt markStN k ps j).length := by rw [hml]; exact hlt
   have hat := mixP_at markSt markStN k ps j hjm hlt
   obtain ⟨p, hp⟩ : ∃ p, p = ps[j] := ⟨_, rfl⟩
   obtain ⟨l, u⟩ := p
   have HP : Hid ((l, u) = ps[j]) := hp
   have hargs : wr.ownsRow base 9 1 u l.args.length (strCells l.args) := HR.out.args (l, u) (by rw [hp, ← hat]; exact List.getElem_mem hjm)
   have HSelf : Hid ((mixP markSt markStN k ps j).set j (l, u) = mixP markSt markStN k ps j) := by
    show _ = _
    apply List.ext_getElem (by simp)
    intro n h3 h4
    rw [List.getElem_set]
    split
    ·rename_i e; subst e; rw [hp, ← hat]
    ·rfl
   have HMs : Hid ((mixP markSt markStN k ps j).set j (markSt (markEnd markStN k (ps.take j)) l, u) = mixP markSt markStN k ps (j + 1)) := by
    have := mixP_set markSt markStN k ps j hlt
    rw [← hp] at this
    exact this
   have HSucc : Hid (markEnd markStN k (ps.take (j + 1)) = markEnd markStN k (ps.take j) + markStN l) := by
    have := markEnd_succ markStN k ps j hlt
    rw [← hp] at this
    exact this
   clear hat
   have hkb := markEnd_le markStN (j + 1) HK.out
   rw [HSucc.out] at hkb
   obtain ⟨kk, hkk⟩ : ∃ kk, kk = markEnd markStN k (ps.take j) := ⟨_, rfl⟩
   rw [← hkk] at HMs HSucc hkb ⊢
   obtain ⟨ms, hms⟩ : ∃ ms, ms = mixP markSt markStN k ps j := ⟨_, rfl⟩
   rw [← hms] at HR HMs HML hjm HSelf
   obtain ⟨uo, uc, rfl, huc⟩ := own_form hargs
   obtain ⟨kd, t0, n0, da, ud, fa, fb⟩ := l
   simp only at hargs huc hkb
   have hkd : kk + da.length + 6 ≤ 4000000000 := by simpa [markStN, Nat.add_assoc] using hkb
   have hrow0 : wr.ownsRow base 52 7 (.slice (some ⟨g, 0, none⟩) ps.length vc) ps.length ((ms.set j (⟨kd, t0, n0, da, ud, fa, fb⟩, .slice uo da.length uc)).flatMap stF) := by
    have h1 := HR.out.row
    rw [HML.out] at h1
    rw [HSelf.out]; exact h1
   have hne : ∀ (wx : World) (xs : List Value) (ys : List ByteArray), wx.ownsRow base 52 7 (.slice (some ⟨g, 0, none⟩) ps.length vc) ps.length xs → wx.ownsRow base 9 1 (.slice uo da.length uc) da.length (strCells ys) → (Value.slice uo da.length uc).ownBlock ≠ some g := fun wx xs ys h1 h2 => own_types h1 h2 (by decide) g rfl
   have hng := hne _ _ _ hrow0 hargs
   have HARGS : Hid (wr.ownsRow base 9 1 (.slice uo da.length uc) da.length (strCells da)) := hargs
   have HROW0 : Hid (wr.ownsRow base 52 7 (.slice (some ⟨g, 0, none⟩) ps.length vc) ps.length ((ms.set j (⟨kd, t0, n0, da, ud, fa, fb⟩, .slice uo da.length uc)).flatMap stF)) := hrow0
   have hc0 := row_cell stF_len hrow0 HML.out hjm 0 (by decide) _ rfl
   rw [Nat.add_zero] at hc0
   have hf0 := hrow0.frozenAt
   have hrow1 : (wr.setCell ⟨g, j * 7, none⟩ (.int .i64 kk)).ownsRow base 52 7 (.slice (some ⟨g, 0, none⟩) ps.length vc) ps.length ((ms.set j (⟨(kk : Int), t0, n0, da, ud, fa, fb⟩, .slice uo da.length uc)).flatMap stF) := row_set stF_len hrow0 hjm 0 (by decide) _ rfl
   have HROW1 : Hid ((wr.setCell ⟨g, j * 7, none⟩ (.int .i64 kk)).ownsRow base 52 7 (.slice (some ⟨g, 0, none⟩) ps.length vc) ps.length ((ms.set j (⟨(kk : Int), t0, n0, da, ud, fa, fb⟩, .slice uo da.length uc)).flatMap stF)) := hrow1
   have HI1 : Hid (Inn (fun b => (Value.slice (some ⟨g, 0, none⟩) ps.length vc).ownBlock = some b ∨ (Value.slice uo da.length uc).ownBlock = some b) wr (wr.setCell ⟨g, j * 7, none⟩ (.int .i64 kk))) := Inn.of_grown (grown_setCell g _ _) (fun b hb => by cases hb; exact .inl rfl)
   have HA1 : Hid ((wr.setCell ⟨g, j * 7, none⟩ (.int .i64 kk)).ownsRow base 9 1 (.slice uo da.length uc) da.length (strCells da)) := own_set_far hargs hng _
   clear hrow0 hrow1 hargs hne hms hkk hml
   go_wp2_with fail
   refine (markText_any (kk + 1) _ (by omega)).mono ?_
   rintro e w2 ⟨rfl, hb2⟩
   have hrow2 := own_below HROW1.out hb2
   have hc2 := row_cell stF_len hrow2 HML.out hjm 1 (by decide) _ rfl
   have hf2 := hrow2.frozenAt
   have HROW2 : Hid ((w2.setCell ⟨g, j * 7 + 1, none⟩ (.string (markT (kk + 1)))).ownsRow base 52 7 (.slice (some ⟨g, 0, none⟩) ps.length vc) ps.length ((ms.set j (⟨(kk : Int), markT (kk + 1), n0, da, ud, fa, fb⟩, .slice uo da.length uc)).flatMap stF)) := row_set stF_len hrow2 hjm 1 (by decide) _ rfl
   have HI2 : Hid (Inn (fun b => (Value.slice (some ⟨g, 0, none⟩) ps.length vc).ownBlock = some b ∨ (Value.slice uo da.length uc).ownBlock = some b) wr (w2.setCell ⟨g, j * 7 + 1, none⟩ (.string (markT (kk + 1))))) := (HI1.out.trans (Inn.of_below hb2)).trans (Inn.of_grown (grown_setCell g _ _) (fun b hb => by cases hb; exact .inl rfl))
   have HA2 : Hid ((w2.setCell ⟨g, j * 7 + 1, none⟩ (.string (markT (kk + 1)))).ownsRow base 9 1 (.slice uo da.length uc) da.length (strCells (da))) := own_set_far (own_below HA1.out hb2) hng _
   clear hrow2 hb2
   go_wp2_with fail
   refine (markText_any (kk + 2) _ (by omega)).mono ?_
   rintro e w3 ⟨rfl, hb3⟩
   have hrow3 := own_below HROW2.out hb3
   have hc3 := row_cell stF_len hrow3 HML.out hjm 2 (by decide) _ rfl
   have hf3 := hrow3.frozenAt
   have HROW3 : Hid ((w3.setCell ⟨g, j * 7 + 2, none⟩ (.string (markT (kk + 2)))).ownsRow base 52 7 (.slice (some ⟨g, 0, none⟩) ps.length vc) ps.length ((ms.set j (⟨(kk : Int), markT (kk + 1), markT (kk + 2), da, ud, fa, fb⟩, .slice uo da.length uc)).flatMap stF)) := row_set stF_len hrow3 hjm 2 (by decide) _ rfl
   have HI3 : Hid (Inn (fun b => (Value.slice (some ⟨g, 0, none⟩) ps.length vc).ownBlock = some b ∨ (Value.slice uo da.length uc).ownBlock = some b) wr (w3.setCell ⟨g, j * 7 + 2, none⟩ (.string (markT (kk + 2))))) := (HI2.out.trans (Inn.of_below hb3)).trans (Inn.of_grown (grown_setCell g _ _) (fun b hb => by cases hb; exact .inl rfl))
   have HA3 : Hid ((w3.setCell ⟨g, j * 7 + 2, none⟩ (.string (markT (kk + 2)))).ownsRow base 9 1 (.slice uo da.length uc) da.length (strCells (da))) := own_set_far (own_below HA2.out hb3) hng _
   have hd3 := row_cell stF_len hrow3 HML.out hjm 3 (by decide) _ rfl
   clear hrow3 hb3
   go_wp2_with fail
   refine (markStringS_any (.slice uo da.length uc) da base (kk + 3) _ (by omega) HA3.out).mono ?_
   rintro e w4 ⟨rfl, ho4, hi4⟩
   have HROW4 : Hid (w4.ownsRow base 52 7 (.slice (some ⟨g, 0, none⟩) ps.length vc) ps.length ((ms.set j (⟨(kk : Int), markT (kk + 1), markT (kk + 2), da, ud, fa, fb⟩, .slice uo da.length uc)).flatMap stF)) := hi4.own HROW3.out (fun b hb hx => hng (by rw [hx]; exact hb.symm ▸ rfl))
   have HA4 : Hid (w4.ownsRow base 9 1 (.slice uo da.length uc) da.length (strCells (marksS (kk + 3) da.length))) := ho4
   have HI4 : Hid (Inn (fun b => (Value.slice (some ⟨g, 0, none⟩) ps.length vc).ownBlock = some b ∨ (Value.slice uo da.length uc).ownBlock = some b) wr w4) := HI3.out.trans (hi4.mono fun b _ hb => .inr hb)
   clear ho4 hi4
   go_wp2_with fail
   refine (markText_any (kk + 3 + da.length) _ (by omega)).mono ?_
   rintro e w5 ⟨rfl, hb5⟩
   have hrow5 := own_below HROW4.out hb5
   have hc5 := row_cell stF_len hrow5 HML.out hjm 4 (by decide) _ rfl
   have hf5 := hrow5.frozenAt
   have HROW5 : Hid ((w5.setCell ⟨g, j * 7 + 4, none⟩ (.string (markT (kk + 3 + da.length)))).ownsRow base 52 7 (.slice (some ⟨g, 0, none⟩) ps.length vc) ps.length ((ms.set j (⟨(kk : Int), markT (kk + 1), markT (kk + 2), marksS (kk + 3) da.length, markT (kk + 3 + da.length), fa, fb⟩, .slice uo da.length uc)).flatMap stF)) := row_set stF_len hrow5 hjm 4 (by decide) _ rfl
   have HI5 : Hid (Inn (fun b => (Value.slice (some ⟨g, 0, none⟩) ps.length vc).ownBlock = some b ∨ (Value.slice uo da.length uc).ownBlock = some b) wr (w5.setCell ⟨g, j * 7 + 4, none⟩ (.string (markT (kk + 3 + da.length))))) := (HI4.out.trans (Inn.of_below hb5)).trans (Inn.of_grown (grown_setCell g _ _) (fun b hb => by cases hb; exact .inl rfl))
   have HA5 : Hid ((w5.setCell ⟨g, j * 7 + 4, none⟩ (.string (markT (kk + 3 + da.length)))).ownsRow base 9 1 (.slice uo da.length uc) da.length (strCells (marksS (kk + 3) da.length))) := own_set_far (own_below HA4.out hb5) hng _
   have hx5 := row_cell stF_len hrow5 HML.out hjm 5 (by decide) _ rfl
   have hx6 := row_cell stF_len hrow5 HML.out hjm 6 (by decide) _ rfl
   have HROW6 : Hid (((w5.setCell ⟨g, j * 7 + 4, none⟩ (.string (markT (kk + 3 + da.length)))).setCell ⟨g, j * 7 + 5, none⟩ (.int .i64 (kk + 3 + da.length + 1 : Nat))).ownsRow base 52 7 (.slice (some ⟨g, 0, none⟩) ps.length vc) ps.length ((ms.set j (⟨(kk : Int), markT (kk + 1), markT (kk + 2), marksS (kk + 3) da.length, markT (kk + 3 + da.length), (kk + 3 + da.length + 1 : Nat), fb⟩, .slice uo da.length uc)).flatMap stF)) := row_set stF_len HROW5.out hjm 5 (by decide) _ rfl
   have HROW7 : Hid ((((w5.setCell ⟨g, j * 7 + 4, none⟩ (.string (markT (kk + 3 + da.length)))).setCell ⟨g, j * 7 + 5, none⟩ (.int .i64 (kk + 3 + da.length + 1 : Nat))).setCell ⟨g, j * 7 + 6, none⟩ (.int .i64 (kk + 3 + da.length + 2 : Nat))).ownsRow base 52 7 (.slice (some ⟨g, 0, none⟩) ps.length vc) ps.length ((ms.set j (⟨(kk : Int), markT (kk + 1), markT (kk + 2), marksS (kk + 3) da.length, markT (kk + 3 + da.length), (kk + 3 + da.length + 1 : Nat), (kk + 3 + da.length + 2 : Nat)⟩, .slice uo da.length uc)).flatMap stF)) := row_set stF_len HROW6.out hjm 6 (by decide) _ rfl
   have HI7 : Hid (Inn (fun b => (Value.slice (some ⟨g, 0, none⟩) ps.length vc).ownBlock = some b ∨ (Value.slice uo da.length uc).ownBlock = some b) wr (((w5.setCell ⟨g, j * 7 + 4, none⟩ (.string (markT (kk + 3 + da.length)))).setCell ⟨g, j * 7 + 5, none⟩ (.int .i64 (kk + 3 + da.length + 1 : Nat))).setCell ⟨g, j * 7 + 6, none⟩ (.int .i64 (kk + 3 + da.length + 2 : Nat)))) := (HI5.out.trans (Inn.of_grown (grown_setCell g _ _) (fun b hb => by cases hb; exact .inl rfl))).trans (Inn.of_grown (grown_setCell g _ _) (fun b hb => by cases hb; exact .inl rfl))
   have HA7 : Hid ((((w5.setCell ⟨g, j * 7 + 4, none⟩ (.string (markT (kk + 3 + da.length)))).setCell ⟨g, j * 7 + 5, none⟩ (.int .i64 (kk + 3 + da.length + 1 : Nat))).setCell ⟨g, j * 7 + 6, none⟩ (.int .i64 (kk + 3 + da.length + 2 : Nat))).ownsRow base 9 1 (.slice uo da.length uc) da.length (strCells (marksS (kk + 3) da.length))) := own_set_far (own_set_far HA5.out hng _) hng _
   have HF : Hid (OwnStp base (((w5.setCell ⟨g, j * 7 + 4, none⟩ (.string (markT (kk + 3 + da.length)))).setCell ⟨g, j * 7 + 5, none⟩ (.int .i64 (kk + 3 + da.length + 1 : Nat))).setCell ⟨g, j * 7 + 6, none⟩ (.int .i64 (kk + 3 + da.length + 2 : Nat))) (.slice (some ⟨g, 0, none⟩) ps.length vc) (mixP markSt markStN k ps (j + 1))) := by
    show OwnSt _ _ _ _ _ _ _ _
    rw [← HMs.out]
    have hself : ms[j].2 = .slice uo da.length uc := by
     have h1 := congrArg (fun l => l[j]?) HSelf.out
     simp only [List.getElem?_set_self hjm, List.getElem?_eq_getElem hjm, Option.some.injEq] at h1
     rw [← h1]
    refine HR.out.step (by decide) hjm (q := (markSt kk ⟨kd, t0, n0, da, ud, fa, fb⟩, .slice uo da.length uc)) hself.symm (by rw [HML.out]; exact HROW7.out) ?_ HI7.out
    have h5 := HA7.out
    rw [show da.length = (marksS (kk + 3) da.length).length from (marksS_len _ _).symm] at h5
    simpa [stA, markSt, marksS_len] using HA7.out
   have HI6 : Hid (Inn (blocksOf (.slice (some ⟨g, 0, none⟩) ps.length vc) ps) w (((w5.setCell ⟨g, j * 7 + 4, none⟩ (.string (markT (kk + 3 + da.length)))).setCell ⟨g, j * 7 + 5, none⟩ (.int .i64 (kk + 3 + da.length + 1 : Nat))).setCell ⟨g, j * 7 + 6, none⟩ (.int .i64 (kk + 3 + da.length + 2 : Nat)))) := HI.out.trans (HI7.out.mono fun b _ hb => by
    rcases hb with hb | hb
    ·exact .inl hb
    ·exact .inr ⟨(⟨kd, t0, n0, da, ud, fa, fb⟩, .slice uo da.length uc), by rw [HP.out]; exact List.getElem_mem hlt, hb⟩)
   clear hrow5 hb5 hp
   go_wp2
   go_roundw
   case rel => exact ⟨j + 1, by omega, by go_num, by rw [HSucc.out]; simp only [markStN]; go_num, HF, HI6⟩
   case measure => simp [intOf]; omega
  ·have e : j = ps.length := by omega
   subst e
   have HF : Hid (OwnStp base wr (.slice vo ps.length vc) (markP markSt markStN k ps)) := by
    have := HR.out
    rw [mixP_all] at this
    exact this
   rw [List.take_length]
   go_wp2
   go_ret
   exact ⟨rfl, HF.out, HI.out⟩
end
section
open Go.RowKit
section
variable {α : Type} (mk : Nat → α → α) (cnt : α → Nat)
def markL : Nat → List α → List α
 | _, [] => []
 | k, p :: r => mk k p :: markL (k + cnt p) r
def endL : Nat → List α → Nat
 | k, [] => k
 | k, p :: r => endL (k + cnt p) r
theorem markL_len : ∀ (k : Nat) (ps : List α), (markL mk cnt k ps).length = ps.length
 | _, [] => rfl
 | k, p :: r => by simp [markL, markL_len _ r]
theorem endL_succ : ∀ (k : Nat) (ps : List α) (i : Nat) (h : i < ps.length), endL cnt k (ps.take (i + 1)) = endL cnt k (ps.take i) + cnt ps[i]
 | _, [], _, h => by simp at h
 | k, p :: r, 0, _ => by simp [endL]
 | k, p :: r, i + 1, h => by
  have := endL_succ (k + cnt p) r i (by simpa using h)
  simpa [endL] using this
theorem markL_at : ∀ (k : Nat) (ps : List α) (i : Nat) (h : i < (markL mk cnt k ps).length) (h' : i < ps.length), (markL mk cnt k ps)[i] = mk (endL cnt k (ps.take i)) ps[i]
 | _, [], _, h, _ => by simp [markL] at h
 | k, p :: r, 0, _, _ => by simp [markL, endL]
 | k, p :: r, i + 1, h, h' => by
  have h2 : i < r.length := by simpa using h'
  have := markL_at (k + cnt p) r i (by rw [markL_len]; exact h2) h2
  simpa [markL, endL] using this
theorem markP_map : ∀ (k : Nat) (ps : List (α × Value)), (markP mk cnt k ps).map (·.1) = markL mk cnt k (ps.map (·.1))
 | _, [] => rfl
 | k, p :: r => by simp [markP, markL, markP_map _ r]
theorem endL_le {k b : Nat} {ps : List α} (i : Nat) (h : endL cnt k ps ≤ b) : endL cnt k (ps.take i) ≤ b := by
 have hm : ∀ (ps : List α) (k : Nat), k ≤ endL cnt k ps := by
  intro ps
  induction ps with
  | nil => intro k; exact Nat.le_refl _
  | cons p r ih => intro k; have := ih (k + cnt p); simp only [endL]; omega
 have ha : ∀ (a c : List α) (k : Nat), endL cnt k (a ++ c) = endL cnt (endL cnt k a) c := by
  intro a c
  induction a with
  | nil => intro k; rfl
  | cons p r ih => intro k; simp only [List.cons_append, endL, ih]
 have h1 := ha (ps.take i) (ps.drop i) k
 rw [List.take_append_drop] at h1
 have h2 := hm (ps.drop i) (endL cnt k (ps.take i))
 omega
end
theorem heldFlowStepS_any (ao : Option Addr) (cap : Nat) (ls : List Stp) (k : Nat) (w : World) (hk : endL markStN k ls ≤ 4000000000) (hl : ls.length ≤ 1048576) (hi : StepsAt w.heap.size w ao (markL markSt markStN k ls)) :
  Calls Tryz.prog 17 #[.slice ao ls.length cap, .int .i64 k] w fun e w' => e = .returned (.int .i64 (endL markStN k ls : Nat)) ∧ Below w.heap.size w w' := by
 have HI : Hid (StepsAt w.heap.size w ao (markL markSt markStN k ls)) := hi
 have HK : Hid (endL markStN k ls ≤ 4000000000) := hk
 clear hi hk
 go_enter Tryz.func17, Tryz.ntmps17
 go_wp2
 go_loopw [1, 5] (fun y i wr => ∃ j : Nat, j ≤ ls.length ∧ i = .int .i64 j ∧ y = .int .i64 (endL markStN k (ls.take j) : Nat) ∧ Hid (Below w.heap.size w wr)) (fun _ i _ => ls.length - (intOf i).toNat)
 case atStart => exact ⟨0, Nat.zero_le _, rfl, rfl, Below.refl _ _⟩
 case round =>
  obtain ⟨j, hj, rfl, rfl, HB⟩ := hrel
  by_cases hlt : j < ls.length
  ·have hjm : j < (markL markSt markStN k ls).length := by rw [markL_len]; exact hlt
   obtain ⟨b, off, rfl, hB, hs⟩ := HI.out j hjm
   rw [markL_at markSt markStN k ls j hjm hlt] at hs
   have HSucc : Hid (endL markStN k (ls.take (j + 1)) = endL markStN k (ls.take j) + markStN ls[j]) := endL_succ markStN k ls j hlt
   have hkb := endL_le markStN (j + 1) HK.out
   rw [HSucc.out] at hkb
   obtain ⟨kk, hkk⟩ : ∃ kk, kk = endL markStN k (ls.take j) := ⟨_, rfl⟩
   rw [← hkk] at hs HSucc hkb ⊢
   obtain ⟨na, hna⟩ : ∃ na, na = ls[j].args.length := ⟨_, rfl⟩
   have HN : Hid (markStN ls[j] = na + 6) := by show _ = _; rw [markStN, hna]
   rw [HN.out] at hkb
   simp only [markSt, ← hna] at hs
   obtain ⟨aoA, capA, hcA, q0, q1, q2, q3, q4, q5, q6, hA⟩ := hs
   simp only [marksS_len] at q0 q1 q2 q3 q4 q5 q6 hcA
   have c0 := (HB.out.cell (p := ⟨b, off + j * 7, none⟩) hB).trans q0
   have c1 := (HB.out.cell (p := ⟨b, off + j * 7 + 1, none⟩) hB).trans q1
   have HC : Hid (∀ w', Below w.heap.size w w' → w'.cell? ⟨b, off + j * 7 + 1, none⟩ = some (.string (markT (kk + 1))) ∧ w'.cell? ⟨b, off + j * 7 + 2, none⟩ = some (.string (markT (kk + 2))) ∧ w'.cell? ⟨b, off + j * 7 + 3, none⟩ = some (.slice aoA na capA) ∧ w'.cell? ⟨b, off + j * 7 + 4, none⟩ = some (.string (markT (kk + 3 + na))) ∧ w'.cell? ⟨b, off + j * 7 + 5, none⟩ = some (.int .i64 (kk + 3 + na + 1 : Nat)) ∧ w'.cell? ⟨b, off + j * 7 + 6, none⟩ = some (.int .i64 (kk + 3 + na + 2 : Nat))) := fun w' h =>
    ⟨(h.cell (p := ⟨b, _, none⟩) hB).trans q1, (h.cell (p := ⟨b, _, none⟩) hB).trans q2, (h.cell (p := ⟨b, _, none⟩) hB).trans q3, (h.cell (p := ⟨b, _, none⟩) hB).trans q4, (h.cell (p := ⟨b, _, none⟩) hB).trans q5, (h.cell (p := ⟨b, _, none⟩) hB).trans q6⟩
   have HAr : Hid (StrsAt 0 w.heap.size w aoA (marksS (kk + 3) na)) := hA
   have hws := HB.out.size
   clear q0 q1 q2 q3 q4 q5 q6 hA hkk hna
   go_wp2_with fail
   go_region_with (go_at_call 37; refine (markText_any (kk + 1) _ (by omega)).mono ?_; rintro e w2 ⟨rfl, hb2⟩; have HB2 : Hid (Below w.heap.size w w2) := HB.out.drew.trans (hb2.mono hws); obtain ⟨d21, d22, d23, d24, d25, d26⟩ := HC.out w2 HB2.out; have hw2 : w.heap.size ≤ w2.heap.size := HB2.out.size; clear hb2)
   all_goals
    go_wp2_with fail
    go_region_with (go_at_call 37; refine (markText_any (kk + 2) _ (by omega)).mono ?_; rintro e w3 ⟨rfl, hb3⟩; have HB3 : Hid (Below w.heap.size w w3) := HB2.out.drew.trans (hb3.mono hw2); obtain ⟨d31, d32, d33, d34, d35, d36⟩ := HC.out w3 HB3.out; have hw3 : w.heap.size ≤ w3.heap.size := HB3.out.size; clear hb3)
    all_goals
     go_wp2_with fail
     refine (heldStringS_any aoA capA na (kk + 3) _ (by omega) (HAr.out.later HB3.out)).mono ?_
     rintro e w4 ⟨rfl, hb4⟩
     have HB4 : Hid (Below w.heap.size w w4) := HB3.out.trans (hb4.mono hw3)
     obtain ⟨d41, d42, d43, d44, d45, d46⟩ := HC.out w4 HB4.out
     have hw4 : w.heap.size ≤ w4.heap.size := HB4.out.size
     clear hb4
     go_wp2_with fail
     go_region_with (go_at_call 37; refine (markText_any (kk + 3 + na) _ (by omega)).mono ?_; rintro e w5 ⟨rfl, hb5⟩; have HB5 : Hid (Below w.heap.size w w5) := HB4.out.drew.trans (hb5.mono hw4); obtain ⟨d51, d52, d53, d54, d55, d56⟩ := HC.out w5 HB5.out; have hw5 : w.heap.size ≤ w5.heap.size := HB5.out.size; clear hb5)
     all_goals
      go_wp2
      go_roundw
      case rel => exact ⟨j + 1, by omega, by go_num, by rw [HSucc.out, HN.out]; go_num, HB5⟩
      case measure => simp [intOf]; omega
  ·have e : j = ls.length := by omega
   subst e
   rw [List.take_length]
   go_wp2
   go_ret
   exact ⟨rfl, HB.out⟩
end
section
open Go.RowKit
theorem newWords_own (ao : Option Addr) (cap : Nat) (ss : List ByteArray) (w : World) (hl : ss.length ≤ 4398046511104) (hi : StrsAt 0 w.heap.size w ao ss) :
  Calls Tryz.prog 88 #[.slice ao ss.length cap] w fun e w' => ∃ v, e = .returned v ∧ Below w.heap.size w w' ∧ w'.ownsRow w.heap.size 9 1 v ss.length (strCells ss) := by
 obtain ⟨i0, hi0, hz0, hz1, hz2⟩ := info_parts Tryz.infoStr
 by_cases h0 : 0 < ss.length
 ·obtain ⟨b, off, rfl, hB, _⟩ := hi 0 h0
  have hcells : ∀ j u, (strCells ss)[j]? = some u → w.cell? ((⟨b, off, none⟩ : Addr).add j) = some u := strs_cells hi
  clear hi
  go_enter Tryz.func88, Tryz.ntmps88
  go_wp2_with (at_builtin; refine wpList_append_own _ rfl _ _ 45 rfl w.heap.size 9 i0 (.string ByteArray.empty) 1 16 Tryz.underlying45 hi0 hz0 hz1 hz2 rfl (by decide) _ _ _ rfl (World.ownsRow_nil _ _ _ _) ⟨b, off, none⟩ ss.length _ (strCells ss) rfl (by simp [strCells]) hcells (by intro u hu; simp [strCells] at hu; obtain ⟨a, _, rfl⟩ := hu; rfl) (by unfold maxLen; omega) (by omega) (Nat.le_refl _) ?_; intro v' w1 hown hgrow _)
  go_ret
  rw [Nat.zero_add, List.nil_append] at hown
  exact ⟨v', rfl, (Below.refl _ _).grown hgrow (Nat.le_refl _) (by intro k hk; cases hk), hown⟩
 ·have e : ss = [] := List.length_eq_zero_iff.1 (by omega)
  subst e
  cases ao with
  | none =>
   go_enter Tryz.func88, Tryz.ntmps88
   go_wp2
   go_ret
   exact ⟨_, rfl, Below.refl _ _, World.ownsRow_nil _ _ _ _⟩
  | some ad =>
   go_enter Tryz.func88, Tryz.ntmps88
   go_wp2_with (at_builtin; refine wpList_append_own _ rfl _ _ 45 rfl w.heap.size 9 i0 (.string ByteArray.empty) 1 16 Tryz.underlying45 hi0 hz0 hz1 hz2 rfl (by decide) _ _ _ rfl (World.ownsRow_nil _ _ _ _) ad 0 _ [] rfl rfl (by intro j u hj; simp at hj) (by intro u hu; simp at hu) (by unfold maxLen; omega) (by omega) (Nat.le_refl _) ?_; intro v' w1 hown hgrow _)
   go_ret
   exact ⟨v', rfl, (Below.refl _ _).grown hgrow (Nat.le_refl _) (by intro k hk; cases hk), hown⟩
theorem codeOf_any (k : Int) (w : World) : Calls Tryz.prog 148 #[.int .i64 k] w fun e w' => e = .returned (.int .i64 (codeK k)) ∧ w' = w := by
 by_cases h2 : k = 2
 ·subst h2; go_enter Tryz.func148, Tryz.ntmps148; go_wp2; go_ret; exact ⟨rfl, rfl⟩
 by_cases h3 : k = 3
 ·subst h3; go_enter Tryz.func148, Tryz.ntmps148; go_wp2; go_ret; exact ⟨rfl, rfl⟩
 by_cases h4 : k = 4
 ·subst h4; go_enter Tryz.func148, Tryz.ntmps148; go_wp2; go_ret; exact ⟨rfl, rfl⟩
 by_cases h5 : k = 5
 ·subst h5; go_enter Tryz.func148, Tryz.ntmps148; go_wp2; go_ret; exact ⟨rfl, rfl⟩
 by_cases h6 : k = 6
 ·subst h6; go_enter Tryz.func148, Tryz.ntmps148; go_wp2; go_ret; exact ⟨rfl, rfl⟩
 by_cases h8 : k = 8
 ·subst h8; go_enter Tryz.func148, Tryz.ntmps148; go_wp2; go_ret; exact ⟨rfl, rfl⟩
 by_cases h14 : k = 14
 ·subst h14; go_enter Tryz.func148, Tryz.ntmps148; go_wp2; go_ret; exact ⟨rfl, rfl⟩
 by_cases h9 : k = 9
 ·subst h9; go_enter Tryz.func148, Tryz.ntmps148; go_wp2; go_ret; exact ⟨rfl, rfl⟩
 by_cases h12 : k = 12
 ·subst h12; go_enter Tryz.func148, Tryz.ntmps148; go_wp2; go_ret; exact ⟨rfl, rfl⟩
 by_cases h13 : k = 13
 ·subst h13; go_enter Tryz.func148, Tryz.ntmps148; go_wp2; go_ret; exact ⟨rfl, rfl⟩
 by_cases h15 : k = 15
 ·subst h15; go_enter Tryz.func148, Tryz.ntmps148; go_wp2; go_ret; exact ⟨rfl, rfl⟩
 have HN : Hid (codeK k = 0) := by simp [Hid, codeK, h2, h3, h4, h5, h6, h8, h14, h9, h12, h13, h15]
 have b2 : (k == 2) = false := beq_eq_false_iff_ne.2 h2
 have b3 : (k == 3) = false := beq_eq_false_iff_ne.2 h3
 have b4 : (k == 4) = false := beq_eq_false_iff_ne.2 h4
 have b5 : (k == 5) = false := beq_eq_false_iff_ne.2 h5
 have b6 : (k == 6) = false := beq_eq_false_iff_ne.2 h6
 have b8 : (k == 8) = false := beq_eq_false_iff_ne.2 h8
 have b14 : (k == 14) = false := beq_eq_false_iff_ne.2 h14
 have b9 : (k == 9) = false := beq_eq_false_iff_ne.2 h9
 have b12 : (k == 12) = false := beq_eq_false_iff_ne.2 h12
 have b13 : (k == 13) = false := beq_eq_false_iff_ne.2 h13
 have b15 : (k == 15) = false := beq_eq_false_iff_ne.2 h15
 clear h2 h3 h4 h5 h6 h8 h14 h9 h12 h13 h15
 go_enter Tryz.func148, Tryz.ntmps148
 go_wp2
 go_ret
 exact ⟨by rw [HN.out] <;> rfl, rfl⟩
end
section
open Go.RowKit
def stF' (p : Stp × Value) : List Value := stC p.1 p.2
theorem stF'_len (p : Stp × Value) : (stF' p).length = 7 := rfl
structure MkSt (q base : Nat) (lo : Option Addr) (cap : Nat) (ls : List Ln) (w : World) (at_ : Nat) (v : Value) (ps : List (Stp × Value)) : Prop where
 obj : w.heap[q]? = some (.cells #[v, .slice lo ls.length cap, .int .i64 at_] 67 (0, 0))
 own : OwnStp base w v ps
 lines : LinesAt q w lo ls
 qb : q < base
 bw : base ≤ w.heap.size
section
variable {q base : Nat} {lo : Option Addr} {cap : Nat} {ls : List Ln} {w w' : World} {at_ : Nat} {v v' : Value} {ps : List (Stp × Value)}
theorem MkSt.lt (h : MkSt q base lo cap ls w at_ v ps) : q < w.heap.size := (Array.getElem?_eq_some_iff.1 h.obj).1
theorem MkSt.c0 (h : MkSt q base lo cap ls w at_ v ps) : w.cell? ⟨q, 0, none⟩ = some v := by rw [cell_of_row _ _ 0 _ _ _ h.obj]; rfl
theorem MkSt.c1 (h : MkSt q base lo cap ls w at_ v ps) : w.cell? ⟨q, 1, none⟩ = some (.slice lo ls.length cap) := by rw [cell_of_row _ _ 1 _ _ _ h.obj]; rfl
theorem MkSt.c2 (h : MkSt q base lo cap ls w at_ v ps) : w.cell? ⟨q, 2, none⟩ = some (.int .i64 at_) := by rw [cell_of_row _ _ 2 _ _ _ h.obj]; rfl
theorem MkSt.fz (h : MkSt q base lo cap ls w at_ v ps) (j : Nat) : w.frozen? ⟨q, j, none⟩ = false := frozen_of_row _ _ j _ _ h.obj
theorem MkSt.row_lt (h : MkSt q base lo cap ls w at_ v ps) {k : Nat} (hk : v.ownBlock = some k) : base ≤ k ∧ k < w.heap.size := h.own.row.lt k hk
theorem MkSt.row_ne (h : MkSt q base lo cap ls w at_ v ps) {p : Stp × Value} (hp : p ∈ ps) {k : Nat} (hk : p.2.ownBlock = some k) : v.ownBlock ≠ some k := fun e => own_types h.own.row (h.own.args p hp) (by decide) k e hk
theorem MkSt.below (h : MkSt q base lo cap ls w at_ v ps) (hb : Below w.heap.size w w') : MkSt q base lo cap ls w' at_ v ps :=
 ⟨(hb.block q h.lt).trans h.obj, h.own.below hb, h.lines.below (hb.mono (Nat.le_of_lt h.lt)), h.qb, Nat.le_trans h.bw hb.size⟩
theorem Wk.lines (hk : Wk q v.ownBlock w w') (h : MkSt q base lo cap ls w at_ v ps) : Below q w w' :=
 hk.below q (Nat.le_refl _) (Nat.le_of_lt h.lt) fun k e => by have := (h.row_lt e).1; have := h.qb; omega
end
theorem next_any (q base : Nat) (lo : Option Addr) (cap : Nat) (ls : List Ln) (at_ : Nat) (v : Value) (ps : List (Stp × Value)) (w : World) (h : MkSt q base lo cap ls w at_ v ps) (hl : ps.length ≤ 1048576) :
  Calls Tryz.prog 106 #[.pointer (some ⟨q, 0, none⟩)] w fun e w' => e = .returned (.int .i64 ps.length) ∧ w' = w := by
 obtain ⟨vo, vc, rfl, _⟩ := own_form h.own.row
 have c0 := h.c0
 clear h
 go_enter Tryz.func106, Tryz.ntmps106
 go_wp2
 go_ret
 exact ⟨rfl, rfl⟩
theorem fill_st {q base : Nat} {lo : Option Addr} {cap : Nat} {ls : List Ln} {w : World} {at_ g vc i : Nat} {ps : List (Stp × Value)} (h : MkSt q base lo cap ls w at_ (.slice (some ⟨g, 0, none⟩) ps.length vc) ps) (hi : i < ps.length) (j : Nat) (hj : j < 7) (x : Value) (s : Stp) (hs : stC s ps[i].2 = (stC ps[i].1 ps[i].2).set j x) (ha : s.args = ps[i].1.args) :
  MkSt q base lo cap ls (w.setCell ⟨g, i * 7 + j, none⟩ x) at_ (.slice (some ⟨g, 0, none⟩) ps.length vc) (ps.set i (s, ps[i].2)) ∧ Wk q (Value.slice (some ⟨g, 0, none⟩) ps.length vc).ownBlock w (w.setCell ⟨g, i * 7 + j, none⟩ x) := by
 have hg := h.row_lt (k := g) rfl
 have hqb := h.qb
 have hgr : w.grownBy (w.setCell ⟨g, i * 7 + j, none⟩ x) (some g) := grown_setCell g _ _
 have hk : Wk q (Value.slice (some ⟨g, 0, none⟩) ps.length vc).ownBlock w (w.setCell ⟨g, i * 7 + j, none⟩ x) := Wk.of_grown hgr
 have hself : ps.set i ps[i] = ps := by
  apply List.ext_getElem (by simp)
  intro n h3 h4
  rw [List.getElem_set]
  split
  ·rename_i e; subst e; rfl
  ·rfl
 have hrow : w.ownsRow base 52 7 (.slice (some ⟨g, 0, none⟩) ps.length vc) ps.length ((ps.set i ps[i]).flatMap stF') := by
  rw [hself]; exact h.own.row
 have hrow2 := row_set (q' := (s, ps[i].2)) stF'_len hrow hi j hj x hs
 have hne : ps[i].2.ownBlock ≠ some g := fun e => h.row_ne (List.getElem_mem hi) e rfl
 refine ⟨⟨(hgr.block q h.lt (by simp; omega)).trans h.obj, h.own.step (by decide) hi (q := (s, ps[i].2)) rfl hrow2 ?_ (Inn.of_grown hgr fun k e => .inl e), h.lines.below (hk.lines h), hqb, Nat.le_trans h.bw hgr.size⟩, hk⟩
 have h2 := own_set_far (j := i * 7 + j) (h.own.args _ (List.getElem_mem hi)) hne x
 show World.ownsRow _ _ _ _ _ _ _
 unfold stA at h2 ⊢
 rw [ha]; exact h2
def setA (s : Stp) (p : Int) : Stp := ⟨s.code, s.to, s.name, s.args, s.undo, p, s.b⟩
def setB (s : Stp) (p : Int) : Stp := ⟨s.code, s.to, s.name, s.args, s.undo, s.a, p⟩
theorem st_form {base : Nat} {w : World} {v : Value} {ps : List (Stp × Value)} (h : OwnStp base w v ps) {i : Nat} (hi : i < ps.length) : ∃ g vc, v = .slice (some ⟨g, 0, none⟩) ps.length vc ∧ ps.length ≤ vc := by
 rcases h.row.2 with ⟨_, h⟩ | ⟨g, vc, cur, rfl, _, _, hn, _⟩
 ·omega
 ·exact ⟨g, vc, rfl, hn⟩
theorem fillA_any (q base : Nat) (lo : Option Addr) (cap : Nat) (ls : List Ln) (at_ : Nat) (v : Value) (ps : List (Stp × Value)) (nb na i : Nat) (p : Int) (w : World) (h : MkSt q base lo cap ls w at_ v ps) (hl : ps.length ≤ 1048576) (hi : i < ps.length)
  (hb : w.cell? ⟨nb, 0, none⟩ = some (.pointer (some ⟨q, 0, none⟩))) (ha : w.cell? ⟨na, 0, none⟩ = some (.int .i64 i)) :
  Calls Tryz.prog 146 #[.int .i64 p, .pointer (some ⟨nb, 0, none⟩), .pointer (some ⟨na, 0, none⟩)] w fun e w' => e = .returned (.tuple #[]) ∧ MkSt q base lo cap ls w' at_ v (ps.set i (setA ps[i].1 p, ps[i].2)) ∧ Wk q v.ownBlock w w' := by
 obtain ⟨g, vc, rfl, hvc⟩ := st_form h.own hi
 have HF : Hid (MkSt q base lo cap ls (w.setCell ⟨g, i * 7 + 5, none⟩ (.int .i64 p)) at_ (.slice (some ⟨g, 0, none⟩) ps.length vc) (ps.set i (setA ps[i].1 p, ps[i].2)) ∧ Wk q (Value.slice (some ⟨g, 0, none⟩) ps.length vc).ownBlock w (w.setCell ⟨g, i * 7 + 5, none⟩ (.int .i64 p))) := fill_st h hi 5 (by decide) _ _ rfl rfl
 have c0 := h.c0
 have cx := h.own.cell (fun _ _ => rfl) rfl i 5 hi (by decide) _ rfl
 have fx := h.own.row.frozenAt
 clear h
 go_enter Tryz.func146, Tryz.ntmps146
 go_wp2_with fail
 go_region
 all_goals
  go_wp2
  go_end0
  exact ⟨rfl, HF.out.1.below (Below.refl _ _).drew, HF.out.2.trans (Wk.of_below (row := (Value.slice (some ⟨g, 0, none⟩) ps.length vc).ownBlock) (Below.refl _ _).drew) (.inl rfl)⟩
theorem fillB_any (q base : Nat) (lo : Option Addr) (cap : Nat) (ls : List Ln) (at_ : Nat) (v : Value) (ps : List (Stp × Value)) (nb na i : Nat) (p : Int) (w : World) (h : MkSt q base lo cap ls w at_ v ps) (hl : ps.length ≤ 1048576) (hi : i < ps.length)
  (hb : w.cell? ⟨nb, 0, none⟩ = some (.pointer (some ⟨q, 0, none⟩))) (ha : w.cell? ⟨na, 0, none⟩ = some (.int .i64 i)) :
  Calls Tryz.prog 147 #[.int .i64 p, .pointer (some ⟨nb, 0, none⟩), .pointer (some ⟨na, 0, none⟩)] w fun e w' => e = .returned (.tuple #[]) ∧ MkSt q base lo cap ls w' at_ v (ps.set i (setB ps[i].1 p, ps[i].2)) ∧ Wk q v.ownBlock w w' := by
 obtain ⟨g, vc, rfl, hvc⟩ := st_form h.own hi
 have HF : Hid (MkSt q base lo cap ls (w.setCell ⟨g, i * 7 + 6, none⟩ (.int .i64 p)) at_ (.slice (some ⟨g, 0, none⟩) ps.length vc) (ps.set i (setB ps[i].1 p, ps[i].2)) ∧ Wk q (Value.slice (some ⟨g, 0, none⟩) ps.length vc).ownBlock w (w.setCell ⟨g, i * 7 + 6, none⟩ (.int .i64 p))) := fill_st h hi 6 (by decide) _ _ rfl rfl
 have c0 := h.c0
 have cx := h.own.cell (fun _ _ => rfl) rfl i 6 hi (by decide) _ rfl
 have fx := h.own.row.frozenAt
 clear h
 go_enter Tryz.func147, Tryz.ntmps147
 go_wp2_with fail
 go_region
 all_goals
  go_wp2
  go_end0
  exact ⟨rfl, HF.out.1.below (Below.refl _ _).drew, HF.out.2.trans (Wk.of_below (row := (Value.slice (some ⟨g, 0, none⟩) ps.length vc).ownBlock) (Below.refl _ _).drew) (.inl rfl)⟩
end
end Go.Proofs.YtlbjjbolbopfmaaGreatDoor
