import Derived.Test.YtlbjjbolbopfmaaGreatDoorJ00
import Derived.Laws.RangeAny
import Derived.Laws.AppendOwn
import Derived.Deep.AppendLies
namespace Go.Proofs.YtlbjjbolbopfmaaGreatDoor
set_option linter.unusedVariables false
section
open Go.RowKit
def z_nG (A B : Nat) (w : World) (v : Value) (k : Int) (d : Bd) : Prop :=
 ∃ ao cap, v = .agg #[.int .i64 k, .string d.to, .string d.name, .slice ao d.args.length cap, .string d.undo] ∧ d.args.length ≤ cap ∧ StrsAt A B w ao d.args
def ReadEnd (o : Option Bd) (k : Int) (w : World) (e : Ending) (w' : World) : Prop :=
 ∃ v, e = .returned (.tuple #[v, .bool o.isSome]) ∧ Below w.heap.size w w' ∧ (∃ k' d', z_nG w.heap.size w'.heap.size w' v k' d' ∧ ∀ d, o = some d → d' = d ∧ k' = k)
section
variable {A B : Nat} {w w1 : World} {v0 v1 v2 v3 v4 : Value}
theorem z_aw (g : Nat) (hg : B ≤ g) (h : Below B w w1) : Below B w (((((w1.setCell ⟨g, 0, none⟩ v0).setCell ⟨g, 1, none⟩ v1).setCell ⟨g, 2, none⟩ v2).setCell ⟨g, 3, none⟩ v3).setCell ⟨g, 4, none⟩ v4) :=
 ((((h.setCell hg _).setCell hg _).setCell hg _).setCell hg _).setCell hg _
theorem z_bu (g : Nat) : (((((w1.setCell ⟨g, 0, none⟩ v0).setCell ⟨g, 1, none⟩ v1).setCell ⟨g, 2, none⟩ v2).setCell ⟨g, 3, none⟩ v3).setCell ⟨g, 4, none⟩ v4).heap.size = w1.heap.size := by
 simp [World.setCell]
theorem StrsAt.set5 {ao : Option Addr} {ss : List ByteArray} (g : Nat) (h : StrsAt A B w1 ao ss) (hg : g < A ∨ B ≤ g) : StrsAt A B (((((w1.setCell ⟨g, 0, none⟩ v0).setCell ⟨g, 1, none⟩ v1).setCell ⟨g, 2, none⟩ v2).setCell ⟨g, 3, none⟩ v3).setCell ⟨g, 4, none⟩ v4) ao ss :=
 ((((h.setCell hg _).setCell hg _).setCell hg _).setCell hg _).setCell hg _
end
end
section
def cutSp (s : ByteArray) : Nat → Nat → Int → List ByteArray
 | 0, _, st => if 0 ≤ st then [s.extract st.toNat s.size] else []
 | n + 1, pos, st =>
  if s.get! pos = 32 then (if 0 ≤ st then s.extract st.toNat pos :: cutSp s n (pos + 1) (-1) else cutSp s n (pos + 1) (-1))
  else cutSp s n (pos + 1) (if st < 0 then (pos : Int) else st)
def wordsW (s : ByteArray) : List ByteArray := cutSp s s.size 0 (-1)
theorem z_fn {s : ByteArray} {n pos : Nat} {st : Int} (h : s.get! pos = 32) (hs : st < 0) : cutSp s (n + 1) pos st = cutSp s n (pos + 1) (-1) := by
 rw [cutSp, if_pos h, if_neg (by omega)]
theorem z_fV {s : ByteArray} {n pos : Nat} {st : Int} (h : s.get! pos = 32) (hs : 0 ≤ st) : cutSp s (n + 1) pos st = s.extract st.toNat pos :: cutSp s n (pos + 1) (-1) := by
 rw [cutSp, if_pos h, if_pos hs]
theorem z_d8 {s : ByteArray} : ∀ (wd n pos : Nat) (st : Int), 0 ≤ st → (∀ j, j < wd → s.get! (pos + j) ≠ 32) → cutSp s (n + wd) pos st = cutSp s n (pos + wd) st
 | 0, _, _, _, _, _ => rfl
 | wd + 1, n, pos, st, h0, hb => by
  have h1 : s.get! pos ≠ 32 := hb 0 (by omega)
  rw [show n + (wd + 1) = (n + wd) + 1 by omega, cutSp, if_neg h1, if_neg (by omega)]
  rw [z_d8 wd n (pos + 1) st h0 (fun j hj => by have := hb (j + 1) (by omega); rwa [show pos + (j + 1) = pos + 1 + j by omega] at this)]
  rw [show pos + 1 + wd = pos + (wd + 1) by omega]
theorem z_jP {s : ByteArray} (wd n pos : Nat) (st : Int) (h0 : st < 0) (hw : 1 ≤ wd) (hb : ∀ j, j < wd → s.get! (pos + j) ≠ 32) : cutSp s (n + wd) pos st = cutSp s n (pos + wd) pos := by
 obtain ⟨v, rfl⟩ : ∃ v, wd = v + 1 := ⟨wd - 1, by omega⟩
 have h1 : s.get! pos ≠ 32 := hb 0 (by omega)
 rw [show n + (v + 1) = (n + v) + 1 by omega, cutSp, if_neg h1, if_pos h0]
 rw [z_d8 v n (pos + 1) pos (by omega) (fun j hj => by have := hb (j + 1) (by omega); rwa [show pos + (j + 1) = pos + 1 + j by omega] at this)]
 rw [show pos + 1 + v = pos + (v + 1) by omega]
theorem rune_at (s : ByteArray) (pos : Nat) (h : pos < s.size) : 1 ≤ (Utf8.decode s pos).2 ∧ pos + (Utf8.decode s pos).2 ≤ s.size ∧
    (((Utf8.decode s pos).1 = 32 ∧ (Utf8.decode s pos).2 = 1 ∧ s.get! pos = 32) ∨ ((Utf8.decode s pos).1 ≠ 32 ∧ ∀ j, j < (Utf8.decode s pos).2 → s.get! (pos + j) ≠ 32)) := by
  have hg : s.get! pos = s[pos]'h := get_at s pos h
  by_cases ha : (s[pos]'h).toNat < 128
  · rw [decode_ascii s pos h ha]
    refine ⟨Nat.le_refl _, h, ?_⟩
    by_cases e : (s[pos]'h).toNat = 32
    · exact .inl ⟨e, rfl, by rw [hg]; exact UInt8.toNat.inj e⟩
    · refine .inr ⟨e, fun j hj => ?_⟩
      have : j = 0 := by simpa using hj
      subst this
      rw [Nat.add_zero, hg]
      intro e2; exact e (by rw [e2]; rfl)
  · have hh := decode_high s pos h (by omega)
    have e0 : s.get! pos ≠ 32 := by
      rw [hg]; intro e2; rw [e2] at ha; exact ha (by decide)
    have cont : ∀ k, ((decide (pos + k < s.size) && (s.get! (pos + k)).toNat / 64 == 2) = true) → pos + k < s.size ∧ s.get! (pos + k) ≠ 32 := by
      intro k hk
      simp only [Bool.and_eq_true, decide_eq_true_eq, beq_iff_eq] at hk
      refine ⟨hk.1, fun e => ?_⟩
      rw [e] at hk
      exact absurd hk.2 (by decide)
    refine ⟨hh.2, ?_, .inr ⟨by omega, ?_⟩⟩
    all_goals
      simp only [Utf8.decode, get_at s pos h, ha, if_false]
      repeat' split
    all_goals first
      | (simp_all; omega)
      | (intro j hj
         dsimp only at hj
         have hj2 : j = 0 ∨ j = 1 ∨ j = 2 ∨ j = 3 := by omega
         rcases hj2 with rfl | rfl | rfl | rfl
         · exact e0
         · first | (exfalso; omega) | exact (cont 1 (by simp only [Bool.and_eq_true] at *; simp [*])).2
         · first | (exfalso; omega) | exact (cont 2 (by simp only [Bool.and_eq_true] at *; simp [*])).2
         · first | (exfalso; omega) | exact (cont 3 (by simp only [Bool.and_eq_true] at *; simp [*])).2)
end
section
abbrev Opn := Int × Bool
abbrev Ln := Int × Bd
def z_aS (os : List Opn) (k : Int) (first : Bool) : List Opn × Bool :=
 if (k == 1) != first then (os, false)
 else if z_am k then (os ++ [(k, false)], true)
 else if !z_ae k then (os, true)
 else match os.getLast? with
  | none => (os, false)
  | some top =>
   if k = 7 then (os.dropLast ++ [(top.1, true)], z_aE top.1 && !top.2)
   else if k = 10 then (os.dropLast ++ [(top.1, true)], (top.1 == 9) && !top.2)
   else (os.dropLast, (top.1 != 9) || top.2)
def z_bo (first : Bool) (os : List Opn) (k : Int) : Option (List Opn) :=
 if (z_aS os k first).2 = true ∧ ¬ (z_am k = true ∧ 5 ≤ os.length) then some (z_aS os k first).1 else none
def z_aL : Bool → List Opn → List Int → Option (List Opn)
 | _, os, [] => some os
 | f, os, k :: r => match z_bo f os k with
  | none => none
  | some os' => z_aL false os' r
theorem z_eP (k : Int) : ∀ (f : Bool) (os : List Opn) (ks : List Int), z_aL f os (ks ++ [k]) = (z_aL f os ks).bind fun os' => z_bo (f && ks.isEmpty) os' k
 | f, os, [] => by
  simp only [List.nil_append, z_aL, List.isEmpty_nil, Bool.and_true, Option.bind_some]
  cases z_bo f os k <;> rfl
 | f, os, a :: r => by
  simp only [List.cons_append, z_aL, List.isEmpty_cons, Bool.and_false]
  cases z_bo f os a with
  | none => rfl
  | some os' => simp only; rw [z_eP k false os' r]; simp
theorem z_fE (b : List Int) : ∀ (f : Bool) (os : List Opn) (a : List Int), z_aL f os a = none → z_aL f os (a ++ b) = none
 | f, os, [], h => by simp [z_aL] at h
 | f, os, x :: r, h => by
  simp only [List.cons_append, z_aL] at h ⊢
  cases hs : z_bo f os x with
  | none => rfl
  | some os' => rw [hs] at h; exact z_fE b false os' r h
inductive Bl where
 | nil : Bl
 | plain : Ln → Bl → Bl
 | one : Ln → Bl → Ln → Bl → Bl
 | two : Ln → Bl → Ln → Bl → Ln → Bl → Bl
def Bl.flat : Bl → List Ln
 | .nil => []
 | .plain l r => l :: r.flat
 | .one l p e r => l :: (p.flat ++ e :: r.flat)
 | .two l p m q e r => l :: (p.flat ++ m :: (q.flat ++ e :: r.flat))
def Bl.wf : Bl → Prop
 | .nil => True
 | .plain l r => z_am l.1 = false ∧ z_ae l.1 = false ∧ l.1 ≠ 1 ∧ r.wf
 | .one l p e r => z_am l.1 = true ∧ l.1 ≠ 9 ∧ e.1 = 11 ∧ p.wf ∧ r.wf
 | .two l p m q e r => ((z_aE l.1 = true ∧ m.1 = 7) ∨ (l.1 = 9 ∧ m.1 = 10)) ∧ e.1 = 11 ∧ p.wf ∧ q.wf ∧ r.wf
theorem z_k3 {f : Bool} {os os' : List Opn} {k : Int} (h : z_bo f os k = some os') (ho : z_am k = true) (hf : (k == 1) = f) : os' = os ++ [(k, false)] := by
 unfold z_bo at h
 split at h
 ·rw [z_aS, hf, ho] at h; simpa using h.symm
 ·cases h
theorem z_fA {f : Bool} {os os' : List Opn} {k : Int} (h : z_bo f os k = some os') (ho : z_am k = false) (hc : z_ae k = false) : os' = os ∧ (k == 1) = f := by
 unfold z_bo at h
 split at h
 ·rename_i h1
  by_cases hf : ((k == 1) != f) = true
  ·rw [z_aS, if_pos hf] at h1; simp at h1
  ·rw [z_aS, if_neg hf, ho, hc] at h
   refine ⟨by simpa using h.symm, ?_⟩
   simpa using hf
 ·cases h
theorem z_be (k : Int) : z_ae k = true ↔ k = 7 ∨ k = 10 ∨ k = 11 := by simp [z_ae, or_assoc]
theorem z_b6 (k : Int) : z_am k = true ↔ k = 6 ∨ k = 14 ∨ k = 8 ∨ k = 9 := by simp [z_am, z_aE, or_assoc]
theorem z_bK (k : Int) : z_aE k = true ↔ k = 6 ∨ k = 14 := by simp [z_aE]
theorem z_cb {k : Int} (h : z_ae k = true) : z_am k = false := by
 rw [z_be] at h
 rcases h with rfl | rfl | rfl <;> rfl
theorem z_e0 {os os' : List Opn} {k x : Int} {t : Bool} (h : z_bo false (os ++ [(x, t)]) k = some os') (hc : z_ae k = true) :
  (k = 7 ∧ z_aE x = true ∧ t = false ∧ os' = os ++ [(x, true)]) ∨ (k = 10 ∧ x = 9 ∧ t = false ∧ os' = os ++ [(x, true)]) ∨ (k = 11 ∧ (x ≠ 9 ∨ t = true) ∧ os' = os) := by
 have ho := z_cb hc
 have h1 : (k == 1) = false := by
  rw [z_be] at hc
  rcases hc with rfl | rfl | rfl <;> rfl
 unfold z_bo at h
 split at h
 ·rename_i hh
  have hg := hh.1
  rw [z_aS, h1, ho, hc] at h hg
  rw [z_be] at hc
  rcases hc with rfl | rfl | rfl
  ·left
   simp at h hg
   exact ⟨rfl, hg.1, hg.2, h.symm⟩
  ·right; left
   simp at h hg
   exact ⟨rfl, hg.1, hg.2, h.symm⟩
  ·right; right
   simp at h hg
   exact ⟨rfl, hg, h.symm⟩
 ·cases h
theorem z_c0 {os' : List Opn} {k : Int} (hc : z_ae k = true) : z_bo false [] k ≠ some os' := by
 intro h
 have ho := z_cb hc
 have h1 : (k == 1) = false := by
  rw [z_be] at hc
  rcases hc with rfl | rfl | rfl <;> rfl
 unfold z_bo at h
 split at h
 ·rename_i hh
  have hg := hh.1
  rw [z_aS, h1, ho, hc] at hg
  simp at hg
 ·cases h
def z_bf (ls : List Ln) : List Int := ls.map (·.1)
theorem z_nI (n : Nat) : ∀ (ls : List Ln) (os : List Opn), ls.length ≤ n → z_aL false os (z_bf ls) = some [] →
  ∃ (t : Bl) (rest : List Ln), ls = t.flat ++ rest ∧ t.wf ∧ ((rest = [] ∧ os = []) ∨ ∃ c r, rest = c :: r ∧ z_ae c.1 = true ∧ z_aL false os (z_bf rest) = some []) := by
 induction n with
 | zero =>
  intro ls os hn h
  have : ls = [] := List.length_eq_zero_iff.1 (by omega)
  subst this
  have : os = [] := by simpa [z_bf, z_aL] using h
  exact ⟨.nil, [], rfl, trivial, .inl ⟨rfl, this⟩⟩
 | succ n ih =>
  intro ls os hn0 hh0
  match ls, hn0, hh0 with
  | [], _, h =>
   have : os = [] := by simpa [z_bf, z_aL] using h
   exact ⟨.nil, [], rfl, trivial, .inl ⟨rfl, this⟩⟩
  | l :: r, hn, h =>
   have hn' : r.length ≤ n := by simpa using hn
   cases hc : z_ae l.1 with
   | true => exact ⟨.nil, l :: r, rfl, trivial, .inr ⟨l, r, rfl, hc, h⟩⟩
   | false =>
    have h0 := h
    simp only [z_bf, List.map_cons, z_aL] at h
    cases hs : z_bo false os l.1 with
    | none => rw [hs] at h; cases h
    | some os1 =>
     rw [hs] at h
     cases ho : z_am l.1 with
     | false =>
      obtain ⟨e0, hk⟩ := z_fA hs ho hc
      rw [e0] at h
      obtain ⟨t, rest, e, hw, hr⟩ := ih r os hn' h
      exact ⟨.plain l t, rest, by rw [e]; rfl, ⟨ho, hc, by simpa using hk, hw⟩, hr⟩
     | true =>
      have hf : (l.1 == 1) = false := by
       rw [z_b6] at ho
       rcases ho with e | e | e | e <;> rw [e] <;> rfl
      have e1 := z_k3 hs ho hf
      subst e1
      obtain ⟨p, rest, e, hp, hr⟩ := ih r _ hn' h
      rcases hr with ⟨_, hb⟩ | ⟨c, r1, rfl, hcl, hr⟩
      ·simp at hb
      have hlen : p.flat.length + r1.length + 1 ≤ n := by
       have := congrArg List.length e
       simp at this; omega
      simp only [z_bf, List.map_cons, z_aL] at hr
      cases hs1 : z_bo false (os ++ [(l.1, false)]) c.1 with
      | none => rw [hs1] at hr; cases hr
      | some os2 =>
       rw [hs1] at hr
       have key : ∀ (hcc : (z_aE l.1 = true ∧ c.1 = 7) ∨ (l.1 = 9 ∧ c.1 = 10)), os2 = os ++ [(l.1, true)] →
         ∃ (t : Bl) (rest : List Ln), l :: r = t.flat ++ rest ∧ t.wf ∧ ((rest = [] ∧ os = []) ∨ ∃ c r, rest = c :: r ∧ z_ae c.1 = true ∧ z_aL false os (z_bf rest) = some []) := by
        intro hcc e2
        subst e2
        obtain ⟨q, rest2, e2, hq, hr2⟩ := ih r1 _ (by omega) hr
        rcases hr2 with ⟨_, hb⟩ | ⟨c2, r2, rfl, hcl2, hr2⟩
        ·simp at hb
        have hlen2 : q.flat.length + r2.length + 1 ≤ r1.length := by
         have := congrArg List.length e2
         simp at this; omega
        simp only [z_bf, List.map_cons, z_aL] at hr2
        cases hs2 : z_bo false (os ++ [(l.1, true)]) c2.1 with
        | none => rw [hs2] at hr2; cases hr2
        | some os3 =>
         rw [hs2] at hr2
         rcases z_e0 hs2 hcl2 with ⟨_, _, hb, _⟩ | ⟨_, _, hb, _⟩ | ⟨h11, _, rfl⟩
         ·cases hb
         ·cases hb
         obtain ⟨t3, rest3, e3, h3, hr3⟩ := ih r2 _ (by omega) hr2
         refine ⟨.two l p c q c2 t3, rest3, ?_, ⟨hcc, h11, hp, hq, h3⟩, hr3⟩
         rw [e, e2, e3]; simp [Bl.flat]
       rcases z_e0 hs1 hcl with ⟨h7, hch, _, e2⟩ | ⟨h10, h9, _, e2⟩ | ⟨h11, h9, e2⟩
       ·exact key (.inl ⟨hch, h7⟩) e2
       ·exact key (.inr ⟨h9, h10⟩) e2
       ·subst e2
        obtain ⟨t3, rest3, e3, h3, hr3⟩ := ih r1 _ (by omega) hr
        refine ⟨.one l p c t3, rest3, ?_, ⟨ho, h9.resolve_right (by simp), h11, hp, h3⟩, hr3⟩
        rw [e, e3]; simp [Bl.flat]
theorem z_jW (ls : List Ln) (h0 : ls ≠ []) (h : z_aL true [] (z_bf ls) = some []) : ∃ (l : Ln) (t : Bl), ls = l :: t.flat ∧ l.1 = 1 ∧ t.wf := by
 match ls, h0, h with
 | l :: r, _, h =>
  simp only [z_bf, List.map_cons, z_aL] at h
  cases hs : z_bo true [] l.1 with
  | none => rw [hs] at h; cases h
  | some os1 =>
   rw [hs] at h
   have h1 : (l.1 == 1) = true := by
    unfold z_bo at hs
    split at hs
    ·rename_i hh
     have hg := hh.1
     rw [z_aS] at hg
     split at hg
     ·simp at hg
     ·rename_i hx; simpa using hx
    ·cases hs
   have e1 : l.1 = 1 := by simpa using h1
   have : os1 = [] := (z_fA hs (by rw [e1]; rfl) (by rw [e1]; rfl)).1
   subst this
   obtain ⟨t, rest, e, hw, hr⟩ := z_nI r.length r [] (Nat.le_refl _) h
   rcases hr with ⟨rfl, _⟩ | ⟨c, r1, rfl, hcl, hr⟩
   ·exact ⟨l, t, by rw [e]; simp, e1, hw⟩
   ·exfalso
    simp only [z_bf, List.map_cons, z_aL] at hr
    cases hs2 : z_bo false [] c.1 with
    | none => rw [hs2] at hr; cases hr
    | some os2 => exact z_c0 hcl hs2
end
section
def addU (ks : List ByteArray) (s : ByteArray) : List ByteArray := if hasB ks s = true then ks else ks ++ [s]
def uniU (ks : List ByteArray) (ss : List ByteArray) : List ByteArray := ss.foldl addU ks
def comm (a b : List ByteArray) : List ByteArray := a.filter fun s => hasB b s
def z_ce (ks : List ByteArray) (s : ByteArray) : Bool := numB s || hasB ks s
def z_cW (a b : Ln) : Bool := !(a.2.to.toList.isEmpty) && ((a.2.to.toList == b.2.to.toList) || hasB b.2.args a.2.to)
def sigB (a b : Ln) : Bool := (a.1 == 5) && ((b.1 == 5) && (a.2.name.toList == b.2.name.toList))
def z_ey (a b : Ln) : Bool := z_cW a b || (z_cW b a || sigB a b)
def z_a5 (xs ys : List Ln) : Bool := xs.any fun a => ys.any fun b => z_ey a b
def z_c5 (ks : List ByteArray) (to : ByteArray) : List ByteArray := if to.toList.isEmpty = true then ks else addU ks to
def z_bk (ks : List ByteArray) (both live : Bool) (l : Ln) : Bool := live && (allB (z_ce ks) l.2.args && !(z_a1 l.1 && both))
def z_al : List ByteArray → Bool → Bool → Bl → Option (List ByteArray × Bool)
 | ks, _, live, .nil => some (ks, live)
 | ks, both, live, .plain l r => if z_bk ks both live l = true then z_al (z_c5 ks l.2.to) both (!z_a1 l.1) r else none
 | ks, both, live, .one l p _ r =>
  if z_bk ks both live l = true then
   match z_al ks both true p with
   | none => none
   | some _ => z_al ks both true r
  else none
 | ks, both, live, .two l p _ q _ r =>
  if z_bk ks both live l = true then
   match z_al ks (both || (l.1 == 9)) true p with
   | none => none
   | some (k1, c1) =>
    match z_al ks (both || (l.1 == 9)) true q with
    | none => none
    | some (k2, c2) =>
     if l.1 = 9 then (if z_a5 p.flat q.flat = true then none else z_al (uniU k1 k2) both true r)
     else if c1 = false then z_al k2 both c2 r
     else if c2 = false then z_al k1 both true r
     else z_al (comm k1 k2) both true r
  else none
theorem z_b4 (a b : List ByteArray) (s : ByteArray) : hasB (a ++ b) s = (hasB a s || hasB b s) := by simp [hasB]
theorem z_jQ (s : ByteArray) : hasB [] s = false := rfl
theorem z_mI (ks : List ByteArray) (s : ByteArray) : ∃ g, addU ks s = ks ++ g ∧ (∀ x ∈ g, hasB ks x = false) ∧ g.Nodup := by
  unfold addU
  split
  · exact ⟨[], by simp, by simp, List.nodup_nil⟩
  · rename_i h
    exact ⟨[s], rfl, by intro x hx; have : x = s := by simpa using hx
                        subst this; simpa using h, by simp⟩
def News (ks gs : List ByteArray) : Prop := (∀ x ∈ gs, hasB ks x = false) ∧ gs.Nodup
theorem News.append {ks a b : List ByteArray} (ha : News ks a) (hb : News (ks ++ a) b) : News ks (a ++ b) := by
 refine ⟨fun x hx => ?_, ?_⟩
 ·rcases List.mem_append.1 hx with h | h
  ·exact ha.1 x h
  ·have := hb.1 x h
   rw [z_b4] at this
   exact (Bool.or_eq_false_iff.1 this).1
 ·rw [List.nodup_append]
  refine ⟨ha.2, hb.2, fun x hx y hy e => ?_⟩
  subst e
  have := hb.1 x hy
  rw [z_b4, (z_ci a x).2 hx] at this
  simp at this
theorem News.nil (ks : List ByteArray) : News ks [] := ⟨by simp, List.nodup_nil⟩
theorem z_i2 (ks : List ByteArray) (s : ByteArray) : ∃ g, addU ks s = ks ++ g ∧ News ks g := by
 obtain ⟨g, h1, h2, h3⟩ := z_mI ks s
 exact ⟨g, h1, h2, h3⟩
theorem z_eT : ∀ (ss ks : List ByteArray), ∃ g, uniU ks ss = ks ++ g ∧ News ks g
 | [], ks => ⟨[], by simp [uniU], News.nil _⟩
 | s :: r, ks => by
  obtain ⟨g, h, hn⟩ := z_i2 ks s
  obtain ⟨g', h', hn'⟩ := z_eT r (addU ks s)
  rw [h] at hn' h'
  refine ⟨g ++ g', ?_, hn.append hn'⟩
  show uniU (addU ks s) r = _
  rw [h, h', List.append_assoc]
theorem z_b5 : ∀ (g ks : List ByteArray), News ks g → uniU ks g = ks ++ g
 | [], ks, _ => by simp [uniU]
 | s :: r, ks, h => by
  have h1 : hasB ks s = false := h.1 s (by simp)
  have e : addU ks s = ks ++ [s] := by rw [addU, h1]; rfl
  show uniU (addU ks s) r = _
  rw [e, z_b5 r (ks ++ [s]) ⟨fun x hx => ?_, (List.nodup_cons.1 h.2).2⟩, List.append_assoc]; rfl
  rw [z_b4, h.1 x (by simp [hx]), Bool.false_or]
  have : x ≠ s := fun e => (List.nodup_cons.1 h.2).1 (e ▸ hx)
  simp [hasB]; exact fun e => this e.symm
theorem z_gj : ∀ (ss ks : List ByteArray), (∀ x ∈ ss, hasB ks x = true) → uniU ks ss = ks
 | [], _, _ => rfl
 | s :: r, ks, h => by
  show uniU (addU ks s) r = ks
  rw [addU, if_pos (h s (by simp))]
  exact z_gj r ks fun x hx => h x (by simp [hx])
theorem z_bI (a b ks : List ByteArray) : uniU ks (a ++ b) = uniU (uniU ks a) b := by simp [uniU]
theorem z_fs (ks g1 g2 : List ByteArray) (h1 : News ks g1) : comm (ks ++ g1) (ks ++ g2) = ks ++ comm g1 g2 := by
 rw [comm, List.filter_append]
 congr 1
 ·rw [List.filter_eq_self]
  intro x hx
  rw [z_b4, (z_ci ks x).2 hx]; rfl
 ·apply List.filter_congr
  intro x hx
  rw [z_b4, h1.1 x hx, Bool.false_or]
theorem z_kC (ks g : List ByteArray) (h : News ks g) : comm (ks ++ g) ks = ks := by
 have := z_fs ks g [] h
 rw [List.append_nil] at this
 rw [this]
 have : comm g [] = [] := by simp [comm, z_jQ]
 rw [this, List.append_nil]
theorem z_hP {ks g1 g2 : List ByteArray} (h : News ks g1) : News ks (comm g1 g2) :=
 ⟨fun x hx => h.1 x (List.mem_filter.1 hx).1, h.2.sublist List.filter_sublist⟩
theorem z_kP (ks : List ByteArray) (to : ByteArray) : ∃ g, z_c5 ks to = ks ++ g ∧ News ks g := by
 unfold z_c5
 split
 ·exact ⟨[], by simp, News.nil _⟩
 ·exact z_i2 ks to
theorem z_ho (ks g1 g2 : List ByteArray) (h1 : News ks g1) : uniU (ks ++ g1) (ks ++ g2) = uniU ks (g1 ++ g2) := by
 rw [z_bI (a := ks), z_gj ks (ks ++ g1), z_bI, z_b5 g1 ks h1]
 intro x hx
 rw [z_b4, (z_ci ks x).2 hx]; rfl
theorem z_bM : ∀ (t : Bl) (ks : List ByteArray) (both live : Bool) (ks' : List ByteArray) (live' : Bool), z_al ks both live t = some (ks', live') → ∃ g, ks' = ks ++ g ∧ News ks g
 | .nil, ks, both, live, ks', live', h => by
  simp only [z_al, Option.some.injEq, Prod.mk.injEq] at h
  exact ⟨[], by simp [h.1], News.nil _⟩
 | .plain l r, ks, both, live, ks', live', h => by
  simp only [z_al] at h
  split at h
  ·obtain ⟨g, e, hg⟩ := z_kP ks l.2.to
   rw [e] at h
   obtain ⟨g', e', hg'⟩ := z_bM r _ _ _ _ _ h
   exact ⟨g ++ g', by rw [e', List.append_assoc], hg.append hg'⟩
  ·cases h
 | .one l p e r, ks, both, live, ks', live', h => by
  simp only [z_al] at h
  split at h
  ·split at h
   ·cases h
   ·exact z_bM r _ _ _ _ _ h
  ·cases h
 | .two l p m q e r, ks, both, live, ks', live', h => by
  simp only [z_al] at h
  split at h
  ·split at h
   ·cases h
   ·rename_i k1 c1 h1
    split at h
    ·cases h
    ·rename_i k2 c2 h2
     obtain ⟨g1, e1, hg1⟩ := z_bM p _ _ _ _ _ h1
     obtain ⟨g2, e2, hg2⟩ := z_bM q _ _ _ _ _ h2
     have fin : ∀ (kk gg : List ByteArray) (b : Bool), kk = ks ++ gg → News ks gg → z_al kk both b r = some (ks', live') → ∃ g, ks' = ks ++ g ∧ News ks g := by
      intro kk gg b ek hk hh
      subst ek
      obtain ⟨g', e', hg'⟩ := z_bM r _ _ _ _ _ hh
      exact ⟨gg ++ g', by rw [e', List.append_assoc], hk.append hg'⟩
     split at h
     ·split at h
      ·cases h
      ·obtain ⟨g, eg, hg⟩ := z_eT (g1 ++ g2) ks
       exact fin _ g true (by rw [e1, e2, z_ho ks g1 g2 hg1, eg]) hg h
     ·split at h
      ·exact fin _ g2 c2 e2 hg2 h
      ·split at h
       ·exact fin _ g1 true e1 hg1 h
       ·exact fin _ (comm g1 g2) true (by rw [e1, e2, z_fs ks g1 g2 hg1]) (z_hP hg1) h
  ·cases h
end
section
structure Stp where
 code : Int
 to : ByteArray
 name : ByteArray
 args : List ByteArray
 undo : ByteArray
 a : Int
 b : Int
def z_cg (k : Int) : Int :=
 if k = 2 then 1 else if k = 3 then 2 else if k = 4 then 3 else if k = 5 then 4 else if k = 6 ∨ k = 8 then 5 else if k = 14 then 6 else if k = 9 then 8
 else if k = 12 then 10 else if k = 13 then 11 else if k = 15 then 12 else 0
def z_as (l : Ln) (a b : Int) : Stp := ⟨z_cg l.1, l.2.to, l.2.name, l.2.args, l.2.undo, a, b⟩
def z_ap (c a : Int) : Stp := ⟨c, eS, eS, [], eS, a, 0⟩
def z_aA : Bl → Nat
 | .nil => 0
 | .plain _ r => z_aA r + 1
 | .one l p _ r => if l.1 = 8 then z_aA p + z_aA r + 2 else z_aA p + z_aA r + 1
 | .two l p _ q _ r => if l.1 = 9 then z_aA p + z_aA q + z_aA r + 3 else z_aA p + z_aA q + z_aA r + 2
def z_aM : Nat → Bl → List Stp
 | _, .nil => []
 | n, .plain l r => z_as l 0 0 :: z_aM (n + 1) r
 | n, .one l p _ r =>
  if l.1 = 8 then z_as l (n + 1 : Nat) (n + 2 + z_aA p : Nat) :: (z_aM (n + 1) p ++ z_ap 7 n :: z_aM (n + 2 + z_aA p) r)
  else z_as l (n + 1 : Nat) (n + 1 + z_aA p : Nat) :: (z_aM (n + 1) p ++ z_aM (n + 1 + z_aA p) r)
 | n, .two l p _ q _ r =>
  if l.1 = 9 then z_as l (n + 1 : Nat) (n + 2 + z_aA p : Nat) :: (z_aM (n + 1) p ++ z_ap 9 (n + 3 + z_aA p + z_aA q : Nat) :: (z_aM (n + 2 + z_aA p) q ++ z_ap 9 (n + 3 + z_aA p + z_aA q : Nat) :: z_aM (n + 3 + z_aA p + z_aA q) r))
  else z_as l (n + 1 : Nat) (n + 2 + z_aA p : Nat) :: (z_aM (n + 1) p ++ z_ap 7 (n + 2 + z_aA p + z_aA q : Nat) :: (z_aM (n + 2 + z_aA p) q ++ z_aM (n + 2 + z_aA p + z_aA q) r))
theorem z_at : ∀ (n : Nat) (t : Bl), (z_aM n t).length = z_aA t
 | _, .nil => rfl
 | n, .plain l r => by simp [z_aM, z_aA, z_at _ r]
 | n, .one l p _ r => by
  unfold z_aM z_aA
  split <;> (simp [z_at _ p, z_at _ r]; try omega)
 | n, .two l p _ q _ r => by
  unfold z_aM z_aA
  split <;> (simp [z_at _ p, z_at _ q, z_at _ r]; try omega)
theorem z_aT : ∀ (t : Bl), t.wf → z_aA t ≤ t.flat.length
 | .nil, _ => Nat.le_refl _
 | .plain l r, h => by have := z_aT r h.2.2.2; simp [z_aA, Bl.flat]; omega
 | .one l p e r, h => by
  have h1 := z_aT p h.2.2.2.1
  have h2 := z_aT r h.2.2.2.2
  unfold z_aA
  split <;> (simp [Bl.flat]; omega)
 | .two l p m q e r, h => by
  have h1 := z_aT p h.2.2.1
  have h2 := z_aT q h.2.2.2.1
  have h3 := z_aT r h.2.2.2.2
  unfold z_aA
  split <;> (simp [Bl.flat]; omega)
end
section
theorem z_ck {s : ByteArray} (h : z_ac s = true) : s.size ≤ 8 := by
 unfold z_ac z_iv at h
 simp only [Bool.and_eq_true, decide_eq_true_eq] at h
 have := h.2.2
 simpa using this
theorem z_kt {s : ByteArray} (h : z_cC s = true) : s.size ≤ 8 := by
 have e : s.toList.length = s.size := by rw [z_bn]; simp
 unfold z_cC at h
 simp only [Bool.or_eq_true, beq_iff_eq] at h
 rcases h with h | h | h | h <;> (rw [h] at e; simp at e; omega)
theorem z_lj {s : ByteArray} (h : 1 ≤ letN s) : s.size ≤ 8 := by
 have e : s.toList.length = s.size := by rw [z_bn]; simp
 unfold letN at h
 split at h
 ·rename_i h1
  rw [beq_iff_eq] at h1; rw [h1] at e; simp at e; omega
 ·split at h
  ·rename_i h1
   simp only [Bool.or_eq_true, beq_iff_eq] at h1
   rcases h1 with h1 | h1 | h1 <;> (rw [h1] at e; simp at e; omega)
  ·omega
structure GoodD (k : Int) (d : Bd) : Prop where
 args : ∀ s ∈ d.args, z_an s = true
 args3 : d.args.length ≤ 3
 to : d.to = eS ∨ z_ac d.to = true
 name8 : d.name.size ≤ 8
 undo8 : d.undo.size ≤ 8
 opens : z_am k = true → d.to = eS ∧ d.undo = eS
 bare : k = 9 ∨ z_ae k = true → d.to = eS ∧ d.name = eS ∧ d.args = [] ∧ d.undo = eS
 patch : k = 14 → d.args = []
 branch : k = 6 ∨ k = 8 → d.args.length = 2
 names : k = 1 → ∀ s ∈ d.args, z_ac s = true
 once : k = 1 → d.args.Nodup
theorem z_iC {ss : List ByteArray} (h : z_cB ss ss.length = false) : ss.Nodup := by
 rw [List.nodup_iff_pairwise_ne, List.pairwise_iff_getElem]
 intro i j hi hj hij e
 have := z_eY ss j ss.length hj hj (by
  rw [z_ci, ← e]
  exact List.mem_take_iff_getElem.2 ⟨i, by omega, rfl⟩)
 rw [this] at h; cases h
theorem z_bZ : eS.size ≤ 8 := by decide
theorem z_dM {p : ByteArray → Bool} {ss : List ByteArray} (h : allB p ss = true) : ∀ s ∈ ss, p s = true := by
 unfold allB at h
 rw [List.all_eq_true] at h
 exact h
theorem z_lL {s : ByteArray} (h : z_ac s = true) : z_an s = true := by rw [z_an, h]; rfl
theorem z_lW {k : Int} {ws : List ByteArray} {d : Bd} (h : z_af k ws = some d) : GoodD k d := by
 have hnext : ∀ {ws : List ByteArray} {d : Bd}, pNext ws = some d → (∀ s ∈ d.args, z_an s = true) ∧ d.args.length ≤ 3 ∧ d.to = eS ∧ d.name = eS ∧ d.undo = eS := by
  intro ws d hx
  rw [pNext.eq_def] at hx
  split at hx
  ·rename_i hh
   cases hx
   exact ⟨z_dM hh.2, hh.1, rfl, rfl, rfl⟩
  ·cases hx
 have hdo : ∀ {vs : List ByteArray} {u : ByteArray} {d : Bd}, u.size ≤ 8 → pDo0 vs u = some d → (∀ s ∈ d.args, z_an s = true) ∧ d.args.length ≤ 3 ∧ z_ac d.to = true ∧ d.name.size ≤ 8 ∧ d.undo.size ≤ 8 := by
  intro vs u d hu hx
  rw [pDo0.eq_def] at hx
  split at hx
  ·split at hx
   ·rename_i hh
    cases hx
    exact ⟨z_dM hh.2.2.2, hh.2.2.1, hh.1, z_ck hh.2.1, hu⟩
   ·cases hx
  ·cases hx
 rw [z_af] at h
 split at h
 ·rename_i hk; subst hk
  rw [pHead.eq_def] at h
  split at h
  ·cases h
  ·split at h
   ·rename_i hh
    cases h
    have h1 := hh.2.1
    rw [z_c6, Bool.and_eq_true] at h1
    exact ⟨fun s hs => z_lL (z_dM h1.2 s hs), hh.1, .inl rfl, z_ck h1.1, z_bZ, fun hx => absurd hx (by decide), fun hx => by rcases hx with hx | hx <;> simp [z_ae] at hx, fun hx => absurd hx (by decide), fun hx => absurd hx (by decide), fun _ => z_dM h1.2, fun _ => z_iC hh.2.2⟩
   ·cases h
 split at h
 ·rename_i hk; subst hk
  rw [pLet.eq_def] at h
  split at h
  ·split at h
   ·rename_i a b c r hh
    cases h
    have h3 := hh.2.2
    have h4 : letN b ≤ 2 := by unfold letN; split <;> (try split) <;> decide
    exact ⟨z_dM hh.2.1, by simp; omega, .inr hh.1, z_lj (s := b) (by omega), z_bZ, fun hx => absurd hx (by decide), fun hx => by rcases hx with hx | hx <;> simp [z_ae] at hx, fun hx => absurd hx (by decide), fun hx => absurd hx (by decide), fun hx => absurd hx (by decide), fun hx => absurd hx (by decide)⟩
   ·cases h
  ·cases h
 split at h
 ·rename_i hk; subst hk
  have fin : ∀ {vs : List ByteArray} {u : ByteArray}, u.size ≤ 8 → pDo0 vs u = some d → GoodD 3 d := by
   intro vs u hu hx
   obtain ⟨h1, h2, h3, h4, h5⟩ := hdo hu hx
   exact ⟨h1, h2, .inr h3, h4, h5, fun hx => absurd hx (by decide), fun hx => by rcases hx with hx | hx <;> simp [z_ae] at hx, fun hx => absurd hx (by decide), fun hx => absurd hx (by decide), fun hx => absurd hx (by decide), fun hx => absurd hx (by decide)⟩
  rw [pDo.eq_def] at h
  split at h
  ·split at h
   ·rename_i hh; exact fin (z_ck hh) h
   ·cases h
  ·exact fin z_bZ h
 split at h
 ·rename_i hk; subst hk
  rw [pGet.eq_def] at h
  split at h
  ·split at h
   ·rename_i hh
    cases h
    exact ⟨by simp, by simp, .inr hh.1, z_ck hh.2, z_bZ, fun hx => absurd hx (by decide), fun hx => by rcases hx with hx | hx <;> simp [z_ae] at hx, fun hx => absurd hx (by decide), fun hx => absurd hx (by decide), fun hx => absurd hx (by decide), fun hx => absurd hx (by decide)⟩
   ·cases h
  ·split at h
   ·rename_i hh
    cases h
    exact ⟨by simpa using hh.2.2.2, by simp, .inr hh.1, z_ck hh.2.1, z_bZ, fun hx => absurd hx (by decide), fun hx => by rcases hx with hx | hx <;> simp [z_ae] at hx, fun hx => absurd hx (by decide), fun hx => absurd hx (by decide), fun hx => absurd hx (by decide), fun hx => absurd hx (by decide)⟩
   ·cases h
  ·cases h
 split at h
 ·rename_i hk
  rw [pTest.eq_def] at h
  split at h
  ·split at h
   ·rename_i hh
    cases h
    refine ⟨by simpa using ⟨hh.1, hh.2.2⟩, by simp, .inl rfl, z_kt hh.2.1, z_bZ, fun _ => ⟨rfl, rfl⟩, fun hx => ?_, fun hx => ?_, fun _ => rfl, fun hx => ?_, fun hx => by omega⟩
    ·rcases hk with rfl | rfl <;> (rcases hx with hx | hx <;> simp [z_ae] at hx)
    ·omega
    ·omega
   ·cases h
  ·cases h
 split at h
 ·rename_i hk
  rw [pNothing.eq_def] at h
  split at h
  ·cases h
   exact ⟨by simp, by simp, .inl rfl, z_bZ, z_bZ, fun _ => ⟨rfl, rfl⟩, fun _ => ⟨rfl, rfl, rfl, rfl⟩, fun _ => rfl, fun hx => by omega, by simp, fun hx => by omega⟩
  ·cases h
 split at h
 ·rename_i hk
  rw [pOperand.eq_def] at h
  split at h
  ·obtain ⟨h1, h2, h3, h4, h5⟩ := hnext h
   refine ⟨h1, h2, .inl h3, by rw [h4]; exact z_bZ, by rw [h5]; exact z_bZ, fun _ => ⟨h3, h5⟩, fun hx => ?_, fun hx => by omega, fun hx => by omega, fun hx => by omega, fun hx => by omega⟩
   rcases hk with rfl | rfl | rfl <;> (rcases hx with hx | hx <;> simp [z_ae] at hx)
  ·cases h
 split at h
 ·rename_i hk; subst hk
  rw [pPatch.eq_def] at h
  split at h
  ·split at h
   ·rename_i hh
    cases h
    exact ⟨by simp, by simp, .inl rfl, z_ck hh, z_bZ, fun _ => ⟨rfl, rfl⟩, fun hx => by rcases hx with hx | hx <;> simp [z_ae] at hx, fun _ => rfl, fun hx => absurd hx (by decide), fun hx => absurd hx (by decide), fun hx => absurd hx (by decide)⟩
   ·cases h
  ·cases h
 split at h
 ·rename_i hk; subst hk
  obtain ⟨h1, h2, h3, h4, h5⟩ := hnext h
  exact ⟨h1, h2, .inl h3, by rw [h4]; exact z_bZ, by rw [h5]; exact z_bZ, fun hx => absurd hx (by decide), fun hx => by rcases hx with hx | hx <;> simp [z_ae] at hx, fun hx => absurd hx (by decide), fun hx => absurd hx (by decide), fun hx => absurd hx (by decide), fun hx => absurd hx (by decide)⟩
 ·cases h
end
section
open Go.RowKit
section
variable {w w' : World} {base size n cap g : Nat} {e : TypeId} {xs : List Value} {v : Value}
theorem z_gA (h : w.ownsRow base e size (.slice (some ⟨g, 0, none⟩) n cap) n xs) (k : Nat) (hk : k ≤ n) : w.ownsRow base e size (.slice (some ⟨g, 0, none⟩) k cap) k (xs.take (k * size)) := by
 have hm : k * size ≤ n * size := Nat.mul_le_mul_right _ hk
 refine ⟨?_, ?_⟩
 ·rw [List.length_take, h.1]; omega
 ·rcases h.2 with ⟨hv, _⟩ | ⟨g', cap', cur, hv, hb, hg, hn, hc, hs, ht⟩
  ·cases hv
  ·cases hv
   refine .inr ⟨g, cap, cur, rfl, hb, hg, by omega, hc, hs, ?_⟩
   rw [← ht, List.take_take, Nat.min_eq_left hm]
theorem z_cU (h : w.ownsRow base e size (.slice (some ⟨g, 0, none⟩) n cap) n xs) (j : Nat) (u : Value) : (w.setCell ⟨g, j, none⟩ u).ownsRow base e size (.slice (some ⟨g, 0, none⟩) n cap) n (xs.set j u) := by
 refine ⟨by rw [List.length_set]; exact h.1, ?_⟩
 rcases h.2 with ⟨hv, _⟩ | ⟨g', cap', cur, hv, hb, hg, hn, hc, hs, ht⟩
 ·cases hv
 ·cases hv
  refine .inr ⟨g, cap, cur.setIfInBounds j u, rfl, hb, heap_setCell_same w g j cur e u hg, hn, hc, by simp [hs], ?_⟩
  rw [Array.toList_setIfInBounds, List.take_set, ht]
theorem z_ax (h : w.ownsRow base e size v n xs) (hb : Below w.heap.size w w') : w'.ownsRow base e size v n xs := by
 refine ⟨h.1, ?_⟩
 rcases h.2 with hn | ⟨g', cap', cur, hv, h1, hg, rest⟩
 ·exact .inl hn
 ·refine .inr ⟨g', cap', cur, hv, h1, ?_, rest⟩
  rw [hb.block g' (Array.getElem?_eq_some_iff.1 hg).1]; exact hg
theorem z_bh {base' : Nat} (h : w.ownsRow base e size v n xs) (hb : base' ≤ base) : w.ownsRow base' e size v n xs := by
 refine ⟨h.1, ?_⟩
 rcases h.2 with hn | ⟨g', cap', cur, hv, h1, rest⟩
 ·exact .inl hn
 ·exact .inr ⟨g', cap', cur, hv, Nat.le_trans hb h1, rest⟩
theorem z_bt {row : Option Nat} (h : Below w.heap.size w w') : w.grownBy w' row := ⟨h.os, h.tape, h.output, h.size, fun k hk _ => h.block k hk⟩
theorem z_bW {row : Option Nat} : w.grownBy w row := z_bt (Below.refl _ _)
theorem z_ah {w'' : World} {row row' : Option Nat} (h : w.grownBy w' row) (h' : w'.grownBy w'' row') (hr : row' = row ∨ ∀ k, row' = some k → w.heap.size ≤ k) : w.grownBy w'' row :=
 ⟨h'.os.trans h.os, h'.tape.trans h.tape, h'.output.trans h.output, Nat.le_trans h.size h'.size, fun k hk hne => (h'.block k (Nat.lt_of_lt_of_le hk h.size) (fun e => by
  rcases hr with hr | hr
  ·exact hne (e.trans hr)
  ·have := hr k e.symm; omega)).trans (h.block k hk hne)⟩
theorem z_aj (g j : Nat) (u : Value) : w.grownBy (w.setCell ⟨g, j, none⟩ u) (some g) :=
 ⟨rfl, rfl, rfl, by simp [World.setCell], fun k _ hne => Below.heap_setCell w _ u k (fun e => hne (by rw [e]))⟩
theorem z_dr {row : Option Nat} (h : w.grownBy w' row) (hb : base ≤ w.heap.size) (hr : ∀ k, row = some k → base ≤ k) : Below base w w' := (Below.refl _ _).grown h hb hr
end
theorem z_aq {w : World} {base n size : Nat} {e : TypeId} {v : Value} {xs : List Value} (h : w.ownsRow base e size v n xs) : ∃ ao cap, v = .slice ao n cap ∧ n ≤ cap := by
 rcases h.2 with ⟨rfl, rfl⟩ | ⟨g, cap, cur, rfl, _, _, hn, _⟩
 ·exact ⟨none, 0, rfl, Nat.le_refl _⟩
 ·exact ⟨_, _, rfl, hn⟩
end
section
open Go.RowKit
def LineAt (B : Nat) (w : World) (b o : Nat) (l : Ln) : Prop :=
 ∃ ao cap, l.2.args.length ≤ cap ∧ w.cell? ⟨b, o, none⟩ = some (.int .i64 l.1) ∧ w.cell? ⟨b, o + 1, none⟩ = some (.string l.2.to) ∧ w.cell? ⟨b, o + 2, none⟩ = some (.string l.2.name) ∧ w.cell? ⟨b, o + 3, none⟩ = some (.slice ao l.2.args.length cap) ∧ w.cell? ⟨b, o + 4, none⟩ = some (.string l.2.undo) ∧ StrsAt 0 B w ao l.2.args
def LinesAt (B : Nat) (w : World) (ao : Option Addr) (ls : List Ln) : Prop :=
 ∀ k (h : k < ls.length), ∃ b off, ao = some ⟨b, off, none⟩ ∧ b < B ∧ LineAt B w b (off + k * 5) ls[k]
structure LnSz (l : Ln) : Prop where
 len : l.2.args.length ≤ 1048576
 to : l.2.to.size ≤ 1048576
 name : l.2.name.size ≤ 1048576
 undo : l.2.undo.size ≤ 1048576
 args : ∀ s ∈ l.2.args, s.size ≤ 1048576
structure LnMx (l : Ln) : Prop where
 len : l.2.args.length ≤ 9223372036854775807
 to : l.2.to.size ≤ 9223372036854775807
 name : l.2.name.size ≤ 9223372036854775807
 undo : l.2.undo.size ≤ 9223372036854775807
 args : ∀ s ∈ l.2.args, s.size ≤ 9223372036854775807
section
variable {B B' : Nat} {w w' : World} {b o : Nat} {l : Ln} {ao : Option Addr} {ls : List Ln}
theorem LineAt.below (h : LineAt B w b o l) (hb : Below B w w') (hB : b < B) : LineAt B w' b o l := by
 obtain ⟨ao, cap, h0, h1, h2, h3, h4, h5, h6⟩ := h
 exact ⟨ao, cap, h0, (hb.cell (p := ⟨b, _, none⟩) hB).trans h1, (hb.cell (p := ⟨b, _, none⟩) hB).trans h2, (hb.cell (p := ⟨b, _, none⟩) hB).trans h3, (hb.cell (p := ⟨b, _, none⟩) hB).trans h4, (hb.cell (p := ⟨b, _, none⟩) hB).trans h5, h6.below hb⟩
theorem LineAt.mono (h : LineAt B w b o l) (hB : B ≤ B') : LineAt B' w b o l := by
 obtain ⟨ao, cap, h0, h1, h2, h3, h4, h5, h6⟩ := h
 exact ⟨ao, cap, h0, h1, h2, h3, h4, h5, h6.mono (Nat.le_refl _) hB⟩
theorem LinesAt.below (h : LinesAt B w ao ls) (hb : Below B w w') : LinesAt B w' ao ls := by
 intro k hk
 obtain ⟨b, off, e, hB, hl⟩ := h k hk
 exact ⟨b, off, e, hB, hl.below hb hB⟩
theorem LinesAt.mono (h : LinesAt B w ao ls) (hB : B ≤ B') : LinesAt B' w ao ls := by
 intro k hk
 obtain ⟨b, off, e, hb, hl⟩ := h k hk
 exact ⟨b, off, e, Nat.lt_of_lt_of_le hb hB, hl.mono hB⟩
theorem LinesAt.later (h : LinesAt w.heap.size w ao ls) (hb : Below w.heap.size w w') : LinesAt w'.heap.size w' ao ls := (h.below hb).mono hb.size
theorem LinesAt.nil : LinesAt B w ao [] := fun k hk => by simp at hk
theorem LinesAt.drop {off : Nat} (h : LinesAt B w (some ⟨b, off, none⟩) ls) (n : Nat) : LinesAt B w (some ⟨b, off + n * 5, none⟩) (ls.drop n) := by
 intro k hk
 have hk' : n + k < ls.length := by simp at hk; omega
 obtain ⟨b', off', e, hB, hl⟩ := h (n + k) hk'
 cases e
 refine ⟨b, off + n * 5, rfl, hB, ?_⟩
 have e2 : off + n * 5 + k * 5 = off + (n + k) * 5 := by omega
 rw [e2, List.getElem_drop]; exact hl
theorem LinesAt.take (h : LinesAt B w ao ls) (n : Nat) : LinesAt B w ao (ls.take n) := by
 intro k hk
 have hk' : k < ls.length := by simp at hk; omega
 obtain ⟨b', off', e, hB, hl⟩ := h k hk'
 exact ⟨b', off', e, hB, by rw [List.getElem_take]; exact hl⟩
end
def standB (ls : List Ln) (back : Ln → Bool) : Prop := ls ≠ [] ∧ (∀ l ∈ ls, back l = true) ∧ z_aL true [] (z_bf ls) = some []
theorem z_ft (ls : List Ln) (k : Nat) (h : k < ls.length) : z_bf (ls.take (k + 1)) = z_bf (ls.take k) ++ [ls[k].1] := by
 rw [z_bf, z_bf, List.take_succ_eq_append_getElem h, List.map_append]; rfl
theorem z_i9 (ls : List Ln) (k : Nat) : z_bf ls = z_bf (ls.take k) ++ z_bf (ls.drop k) := by
 rw [z_bf, z_bf, z_bf, ← List.map_append, List.take_append_drop]
theorem z_gz {ls : List Ln} {k : Nat} (h : z_aL true [] (z_bf (ls.take k)) = none) : z_aL true [] (z_bf ls) ≠ some [] := by
 rw [z_i9 ls k, z_fE _ _ _ _ h]; simp
end
end Go.Proofs.YtlbjjbolbopfmaaGreatDoor
