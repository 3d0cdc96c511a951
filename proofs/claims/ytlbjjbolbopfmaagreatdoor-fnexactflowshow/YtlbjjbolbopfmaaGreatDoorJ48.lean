import Derived.Test.YtlbjjbolbopfmaaGreatDoorJ46
namespace Go.Proofs.YtlbjjbolbopfmaaGreatDoor
set_option linter.unusedVariables false
theorem z_dB {t : Bl} {rest rest' : List Ln} (hn : z_aR t = true) (hw : t.wf) (h : rest = t.flat ++ rest') (he : z_jq rest) : False := by
 have hf := z_cL hn hw
 obtain ⟨y, hy⟩ : ∃ y, t.flat = z_au t :: y := by
  cases t with
  | nil => cases hn
  | plain l r => exact ⟨_, rfl⟩
  | one l p e r => exact ⟨_, rfl⟩
  | two l p m q e r => exact ⟨_, rfl⟩
 rw [hy] at h
 rcases he with rfl | ⟨c, r, rfl, hc⟩
 ·cases h
 ·simp only [List.cons_append, List.cons.injEq] at h
  rw [← h.1, hc] at hf
  cases hf
theorem z_mz (t : Bl) : ∀ (t' : Bl) (rest rest' : List Ln), t.wf → t'.wf → t.flat ++ rest = t'.flat ++ rest' → z_jq rest → z_jq rest' → t = t' ∧ rest = rest' := by
 induction t with
 | nil =>
  intro t' rest rest' hw hw' h he he'
  cases hn : z_aR t' with
  | false => cases t' <;> first | exact ⟨rfl, h⟩ | cases hn
  | true => exact (z_dB hn hw' h he).elim
 | plain l r ih =>
  intro t' rest rest' hw hw' h he he'
  cases t' with
  | nil => exact (z_dB (t := .plain l r) rfl hw h.symm he').elim
  | plain l' r' =>
   simp only [Bl.flat, List.cons_append, List.cons.injEq] at h
   obtain ⟨rfl, h⟩ := h
   obtain ⟨rfl, h2⟩ := ih r' rest rest' hw.2.2.2 hw'.2.2.2 h he he'
   exact ⟨rfl, h2⟩
  | one l' p' e' r' =>
   simp only [Bl.flat, List.cons_append, List.cons.injEq] at h
   have h1 := hw.1
   rw [h.1, hw'.1] at h1
   cases h1
  | two l' p' m' q' e' r' =>
   simp only [Bl.flat, List.cons_append, List.cons.injEq] at h
   have h1 := hw.1
   rw [h.1] at h1
   rcases hw'.1 with ⟨h2, _⟩ | ⟨h2, _⟩
   ·unfold z_am at h1; rw [h2] at h1; cases h1
   ·rw [h2] at h1; cases h1
 | one l p e r ihp ihr =>
  intro t' rest rest' hw hw' h he he'
  cases t' with
  | nil => exact (z_dB (t := .one l p e r) rfl hw h.symm he').elim
  | plain l' r' =>
   simp only [Bl.flat, List.cons_append, List.cons.injEq] at h
   have h1 := hw'.1
   rw [← h.1, hw.1] at h1
   cases h1
  | one l' p' e' r' =>
   simp only [Bl.flat, List.cons_append, List.append_assoc, List.cons.injEq] at h
   obtain ⟨rfl, h⟩ := h
   obtain ⟨rfl, h2⟩ := ihp p' _ _ hw.2.2.2.1 hw'.2.2.2.1 h (.inr ⟨e, _, rfl, by rw [hw.2.2.1]; rfl⟩) (.inr ⟨e', _, rfl, by rw [hw'.2.2.1]; rfl⟩)
   simp only [List.cons.injEq] at h2
   obtain ⟨rfl, h2⟩ := h2
   obtain ⟨rfl, h3⟩ := ihr r' rest rest' hw.2.2.2.2 hw'.2.2.2.2 h2 he he'
   exact ⟨rfl, h3⟩
  | two l' p' m' q' e' r' =>
   simp only [Bl.flat, List.cons_append, List.append_assoc, List.cons.injEq] at h
   obtain ⟨rfl, h⟩ := h
   have hmc : z_ae m'.1 = true := by rcases hw'.1 with ⟨_, h⟩ | ⟨_, h⟩ <;> rw [h] <;> rfl
   obtain ⟨rfl, h2⟩ := ihp p' _ _ hw.2.2.2.1 hw'.2.2.1 h (.inr ⟨e, _, rfl, by rw [hw.2.2.1]; rfl⟩) (.inr ⟨m', _, rfl, hmc⟩)
   simp only [List.cons.injEq] at h2
   have h3 := hw.2.2.1
   rw [h2.1] at h3
   rcases hw'.1 with ⟨_, h4⟩ | ⟨_, h4⟩ <;> rw [h4] at h3 <;> cases h3
 | two l p m q e r ihp ihq ihr =>
  intro t' rest rest' hw hw' h he he'
  have hmc : z_ae m.1 = true := by rcases hw.1 with ⟨_, h⟩ | ⟨_, h⟩ <;> rw [h] <;> rfl
  cases t' with
  | nil => exact (z_dB (t := .two l p m q e r) rfl hw h.symm he').elim
  | plain l' r' =>
   simp only [Bl.flat, List.cons_append, List.cons.injEq] at h
   have h1 := hw'.1
   rw [← h.1] at h1
   rcases hw.1 with ⟨h2, _⟩ | ⟨h2, _⟩
   ·unfold z_am at h1; rw [h2] at h1; cases h1
   ·rw [h2] at h1; cases h1
  | one l' p' e' r' =>
   simp only [Bl.flat, List.cons_append, List.append_assoc, List.cons.injEq] at h
   obtain ⟨rfl, h⟩ := h
   obtain ⟨rfl, h2⟩ := ihp p' _ _ hw.2.2.1 hw'.2.2.2.1 h (.inr ⟨m, _, rfl, hmc⟩) (.inr ⟨e', _, rfl, by rw [hw'.2.2.1]; rfl⟩)
   simp only [List.cons.injEq] at h2
   have h3 := hw'.2.2.1
   rw [← h2.1] at h3
   rcases hw.1 with ⟨_, h4⟩ | ⟨_, h4⟩ <;> rw [h4] at h3 <;> cases h3
  | two l' p' m' q' e' r' =>
   simp only [Bl.flat, List.cons_append, List.append_assoc, List.cons.injEq] at h
   obtain ⟨rfl, h⟩ := h
   have hmc' : z_ae m'.1 = true := by rcases hw'.1 with ⟨_, h⟩ | ⟨_, h⟩ <;> rw [h] <;> rfl
   obtain ⟨rfl, h2⟩ := ihp p' _ _ hw.2.2.1 hw'.2.2.1 h (.inr ⟨m, _, rfl, hmc⟩) (.inr ⟨m', _, rfl, hmc'⟩)
   simp only [List.cons.injEq] at h2
   obtain ⟨rfl, h2⟩ := h2
   obtain ⟨rfl, h3⟩ := ihq q' _ _ hw.2.2.2.1 hw'.2.2.2.1 h2 (.inr ⟨e, _, rfl, by rw [hw.2.1]; rfl⟩) (.inr ⟨e', _, rfl, by rw [hw'.2.1]; rfl⟩)
   simp only [List.cons.injEq] at h3
   obtain ⟨rfl, h3⟩ := h3
   obtain ⟨rfl, h4⟩ := ihr r' rest rest' hw.2.2.2.2 hw'.2.2.2.2 h3 he he'
   exact ⟨rfl, h4⟩
theorem z_j4 {l0 l1 : Ln} {t t' : Bl} (h : l0 :: t.flat = l1 :: t'.flat) (hw : t.wf) (hw' : t'.wf) : l0 = l1 ∧ t = t' := by
 simp only [List.cons.injEq] at h
 exact ⟨h.1, (z_mz t t' [] [] hw hw' (by rw [List.append_nil, List.append_nil]; exact h.2) (.inl rfl) (.inl rfl)).1⟩
theorem z_fD {b b' : Int} {ls : List Ln} (h : z_bV b ls) (h' : z_bV b' ls) : b = 0 ↔ b' = 0 := by
 have key : ∀ {x y : Int}, z_bV x ls → z_bV y ls → x = 0 → y = 0 := by
  intro x y hx hy e
  rcases hx with ⟨_, hl, hs, l0, t, e1, hw, hc⟩ | ⟨hn, _⟩
  ·rcases hy with ⟨h0, _⟩ | ⟨_, h1 | h1 | ⟨l1, t', e2, hw', hc'⟩⟩
   ·exact h0
   ·omega
   ·exact absurd hs h1
   ·obtain ⟨rfl, rfl⟩ := z_j4 (e1.symm.trans e2) hw hw'
    rw [hc] at hc'; cases hc'
  ·exact absurd e hn
 exact ⟨key h h', key h' h⟩
end Go.Proofs.YtlbjjbolbopfmaaGreatDoor
