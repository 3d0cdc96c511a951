import Derived.Test.YtlbjjbolbopfmaaGreatDoorI08
import Derived.Test.YtlbjjbolbopfmaaGreatDoorI00
import Derived.Laws.AppendOwn
import Derived.Deep.AppendLies
import Derived.Deep.LoopGhost
import Derived.BigQuiet
import Derived.Deep.QuietTactic
namespace Go.Proofs.YtlbjjbolbopfmaaGreatDoor
set_option maxHeartbeats 2000000
set_option maxRecDepth 1000000
set_option linter.unusedVariables false
section
def addU (ks : List ByteArray) (s : ByteArray) : List ByteArray := if hasB ks s = true then ks else ks ++ [s]
def uniU (ks : List ByteArray) (ss : List ByteArray) : List ByteArray := ss.foldl addU ks
def comm (a b : List ByteArray) : List ByteArray := a.filter fun s => hasB b s
def z_ce (ks : List ByteArray) (s : ByteArray) : Bool := numB s || hasB ks s
def z_cW (a b : Ln) : Bool := !(a.2.to.toList.isEmpty) && ((a.2.to.toList == b.2.to.toList) || hasB b.2.args a.2.to)
def sigB (a b : Ln) : Bool := (a.1 == 5) && ((b.1 == 5) && (a.2.name.toList == b.2.name.toList))
def z_eA (a b : Ln) : Bool := z_cW a b || (z_cW b a || sigB a b)
def z_a4 (xs ys : List Ln) : Bool := xs.any fun a => ys.any fun b => z_eA a b
def z_cY (ks : List ByteArray) (to : ByteArray) : List ByteArray := if to.toList.isEmpty = true then ks else addU ks to
def z_bl (ks : List ByteArray) (both live : Bool) (l : Ln) : Bool := live && (allB (z_ce ks) l.2.args && !(z_a3 l.1 && both))
def z_al : List ByteArray → Bool → Bool → Bl → Option (List ByteArray × Bool)
 | ks, _, live, .nil => some (ks, live)
 | ks, both, live, .plain l r => if z_bl ks both live l = true then z_al (z_cY ks l.2.to) both (!z_a3 l.1) r else none
 | ks, both, live, .one l p _ r =>
  if z_bl ks both live l = true then
   match z_al ks both true p with
   | none => none
   | some _ => z_al ks both true r
  else none
 | ks, both, live, .two l p _ q _ r =>
  if z_bl ks both live l = true then
   match z_al ks (both || (l.1 == 9)) true p with
   | none => none
   | some (k1, c1) =>
    match z_al ks (both || (l.1 == 9)) true q with
    | none => none
    | some (k2, c2) =>
     if l.1 = 9 then (if z_a4 p.flat q.flat = true then none else z_al (uniU k1 k2) both true r)
     else if c1 = false then z_al k2 both c2 r
     else if c2 = false then z_al k1 both true r
     else z_al (comm k1 k2) both true r
  else none
theorem z_b3 (a b : List ByteArray) (s : ByteArray) : hasB (a ++ b) s = (hasB a s || hasB b s) := by simp [hasB]
theorem z_kf (s : ByteArray) : hasB [] s = false := rfl
theorem z_mS (ks : List ByteArray) (s : ByteArray) : ∃ g, addU ks s = ks ++ g ∧ (∀ x ∈ g, hasB ks x = false) ∧ g.Nodup := by
  unfold addU
  split
  · exact ⟨[], by simp, by simp, List.nodup_nil⟩
  · rename_i h
    exact ⟨[s], rfl, by intro x hx; have : x = s := by simpa using hx
                        subst this; simpa using h, by simp⟩
def News (ks gs : List ByteArray) : Prop := (∀ x ∈ gs, hasB ks x = false) ∧ gs.Nodup
theorem News.append {ks a b : List ByteArray} (ha : News ks a) (hb : News (ks ++ a) b) : News ks (a ++ b) := by
 refine ⟨fun x hx => ?_, ?_⟩
 ·rcases List.mem_append.1 hx with h | h
  ·exact ha.1 x h
  ·have := hb.1 x h
   rw [z_b3] at this
   exact (Bool.or_eq_false_iff.1 this).1
 ·rw [List.nodup_append]
  refine ⟨ha.2, hb.2, fun x hx y hy e => ?_⟩
  subst e
  have := hb.1 x hy
  rw [z_b3, (z_ci a x).2 hx] at this
  simp at this
theorem News.nil (ks : List ByteArray) : News ks [] := ⟨by simp, List.nodup_nil⟩
theorem z_ip (ks : List ByteArray) (s : ByteArray) : ∃ g, addU ks s = ks ++ g ∧ News ks g := by
 obtain ⟨g, h1, h2, h3⟩ := z_mS ks s
 exact ⟨g, h1, h2, h3⟩
theorem z_eT : ∀ (ss ks : List ByteArray), ∃ g, uniU ks ss = ks ++ g ∧ News ks g
 | [], ks => ⟨[], by simp [uniU], News.nil _⟩
 | s :: r, ks => by
  obtain ⟨g, h, hn⟩ := z_ip ks s
  obtain ⟨g', h', hn'⟩ := z_eT r (addU ks s)
  rw [h] at hn' h'
  refine ⟨g ++ g', ?_, hn.append hn'⟩
  show uniU (addU ks s) r = _
  rw [h, h', List.append_assoc]
theorem z_bW : ∀ (g ks : List ByteArray), News ks g → uniU ks g = ks ++ g
 | [], ks, _ => by simp [uniU]
 | s :: r, ks, h => by
  have h1 : hasB ks s = false := h.1 s (by simp)
  have e : addU ks s = ks ++ [s] := by rw [addU, h1]; rfl
  show uniU (addU ks s) r = _
  rw [e, z_bW r (ks ++ [s]) ⟨fun x hx => ?_, (List.nodup_cons.1 h.2).2⟩, List.append_assoc]; rfl
  rw [z_b3, h.1 x (by simp [hx]), Bool.false_or]
  have : x ≠ s := fun e => (List.nodup_cons.1 h.2).1 (e ▸ hx)
  simp [hasB]; exact fun e => this e.symm
theorem z_f5 : ∀ (ss ks : List ByteArray), (∀ x ∈ ss, hasB ks x = true) → uniU ks ss = ks
 | [], _, _ => rfl
 | s :: r, ks, h => by
  show uniU (addU ks s) r = ks
  rw [addU, if_pos (h s (by simp))]
  exact z_f5 r ks fun x hx => h x (by simp [hx])
theorem z_bJ (a b ks : List ByteArray) : uniU ks (a ++ b) = uniU (uniU ks a) b := by simp [uniU]
theorem z_fr (ks g1 g2 : List ByteArray) (h1 : News ks g1) : comm (ks ++ g1) (ks ++ g2) = ks ++ comm g1 g2 := by
 rw [comm, List.filter_append]
 congr 1
 ·rw [List.filter_eq_self]
  intro x hx
  rw [z_b3, (z_ci ks x).2 hx]; rfl
 ·apply List.filter_congr
  intro x hx
  rw [z_b3, h1.1 x hx, Bool.false_or]
theorem z_kH (ks g : List ByteArray) (h : News ks g) : comm (ks ++ g) ks = ks := by
 have := z_fr ks g [] h
 rw [List.append_nil] at this
 rw [this]
 have : comm g [] = [] := by simp [comm, z_kf]
 rw [this, List.append_nil]
theorem z_iW {ks g1 g2 : List ByteArray} (h : News ks g1) : News ks (comm g1 g2) :=
 ⟨fun x hx => h.1 x (List.mem_filter.1 hx).1, h.2.sublist List.filter_sublist⟩
theorem z_kC (ks : List ByteArray) (to : ByteArray) : ∃ g, z_cY ks to = ks ++ g ∧ News ks g := by
 unfold z_cY
 split
 ·exact ⟨[], by simp, News.nil _⟩
 ·exact z_ip ks to
theorem z_he (ks g1 g2 : List ByteArray) (h1 : News ks g1) : uniU (ks ++ g1) (ks ++ g2) = uniU ks (g1 ++ g2) := by
 rw [z_bJ (a := ks), z_f5 ks (ks ++ g1), z_bJ, z_bW g1 ks h1]
 intro x hx
 rw [z_b3, (z_ci ks x).2 hx]; rfl
theorem z_bO : ∀ (t : Bl) (ks : List ByteArray) (both live : Bool) (ks' : List ByteArray) (live' : Bool), z_al ks both live t = some (ks', live') → ∃ g, ks' = ks ++ g ∧ News ks g
 | .nil, ks, both, live, ks', live', h => by
  simp only [z_al, Option.some.injEq, Prod.mk.injEq] at h
  exact ⟨[], by simp [h.1], News.nil _⟩
 | .plain l r, ks, both, live, ks', live', h => by
  simp only [z_al] at h
  split at h
  ·obtain ⟨g, e, hg⟩ := z_kC ks l.2.to
   rw [e] at h
   obtain ⟨g', e', hg'⟩ := z_bO r _ _ _ _ _ h
   exact ⟨g ++ g', by rw [e', List.append_assoc], hg.append hg'⟩
  ·cases h
 | .one l p e r, ks, both, live, ks', live', h => by
  simp only [z_al] at h
  split at h
  ·split at h
   ·cases h
   ·exact z_bO r _ _ _ _ _ h
  ·cases h
 | .two l p m q e r, ks, both, live, ks', live', h => by
  simp only [z_al] at h
  split at h
  ·split at h
   ·cases h
   ·rename_i k1 c1 h1
    split at h
    ·cases h
    ·rename_i k2 c2 h2
     obtain ⟨g1, e1, hg1⟩ := z_bO p _ _ _ _ _ h1
     obtain ⟨g2, e2, hg2⟩ := z_bO q _ _ _ _ _ h2
     have fin : ∀ (kk gg : List ByteArray) (b : Bool), kk = ks ++ gg → News ks gg → z_al kk both b r = some (ks', live') → ∃ g, ks' = ks ++ g ∧ News ks g := by
      intro kk gg b ek hk hh
      subst ek
      obtain ⟨g', e', hg'⟩ := z_bO r _ _ _ _ _ hh
      exact ⟨gg ++ g', by rw [e', List.append_assoc], hk.append hg'⟩
     split at h
     ·split at h
      ·cases h
      ·obtain ⟨g, eg, hg⟩ := z_eT (g1 ++ g2) ks
       exact fin _ g true (by rw [e1, e2, z_he ks g1 g2 hg1, eg]) hg h
     ·split at h
      ·exact fin _ g2 c2 e2 hg2 h
      ·split at h
       ·exact fin _ g1 true e1 hg1 h
       ·exact fin _ (comm g1 g2) true (by rw [e1, e2, z_fr ks g1 g2 hg1]) (z_iW hg1) h
  ·cases h
end
section
structure Stp where
 code : Int
 to : ByteArray
 name : ByteArray
 args : List ByteArray
 undo : ByteArray
 a : Int
 b : Int
def z_cg (k : Int) : Int :=
 if k = 2 then 1 else if k = 3 then 2 else if k = 4 then 3 else if k = 5 then 4 else if k = 6 ∨ k = 8 then 5 else if k = 14 then 6 else if k = 9 then 8
 else if k = 12 then 10 else if k = 13 then 11 else if k = 15 then 12 else 0
def z_as (l : Ln) (a b : Int) : Stp := ⟨z_cg l.1, l.2.to, l.2.name, l.2.args, l.2.undo, a, b⟩
def z_ap (c a : Int) : Stp := ⟨c, eS, eS, [], eS, a, 0⟩
def z_aA : Bl → Nat
 | .nil => 0
 | .plain _ r => z_aA r + 1
 | .one l p _ r => if l.1 = 8 then z_aA p + z_aA r + 2 else z_aA p + z_aA r + 1
 | .two l p _ q _ r => if l.1 = 9 then z_aA p + z_aA q + z_aA r + 3 else z_aA p + z_aA q + z_aA r + 2
def z_aM : Nat → Bl → List Stp
 | _, .nil => []
 | n, .plain l r => z_as l 0 0 :: z_aM (n + 1) r
 | n, .one l p _ r =>
  if l.1 = 8 then z_as l (n + 1 : Nat) (n + 2 + z_aA p : Nat) :: (z_aM (n + 1) p ++ z_ap 7 n :: z_aM (n + 2 + z_aA p) r)
  else z_as l (n + 1 : Nat) (n + 1 + z_aA p : Nat) :: (z_aM (n + 1) p ++ z_aM (n + 1 + z_aA p) r)
 | n, .two l p _ q _ r =>
  if l.1 = 9 then z_as l (n + 1 : Nat) (n + 2 + z_aA p : Nat) :: (z_aM (n + 1) p ++ z_ap 9 (n + 3 + z_aA p + z_aA q : Nat) :: (z_aM (n + 2 + z_aA p) q ++ z_ap 9 (n + 3 + z_aA p + z_aA q : Nat) :: z_aM (n + 3 + z_aA p + z_aA q) r))
  else z_as l (n + 1 : Nat) (n + 2 + z_aA p : Nat) :: (z_aM (n + 1) p ++ z_ap 7 (n + 2 + z_aA p + z_aA q : Nat) :: (z_aM (n + 2 + z_aA p) q ++ z_aM (n + 2 + z_aA p + z_aA q) r))
theorem z_at : ∀ (n : Nat) (t : Bl), (z_aM n t).length = z_aA t
 | _, .nil => rfl
 | n, .plain l r => by simp [z_aM, z_aA, z_at _ r]
 | n, .one l p _ r => by
  unfold z_aM z_aA
  split <;> (simp [z_at _ p, z_at _ r]; try omega)
 | n, .two l p _ q _ r => by
  unfold z_aM z_aA
  split <;> (simp [z_at _ p, z_at _ q, z_at _ r]; try omega)
theorem z_aV : ∀ (t : Bl), t.wf → z_aA t ≤ t.flat.length
 | .nil, _ => Nat.le_refl _
 | .plain l r, h => by have := z_aV r h.2.2.2; simp [z_aA, Bl.flat]; omega
 | .one l p e r, h => by
  have h1 := z_aV p h.2.2.2.1
  have h2 := z_aV r h.2.2.2.2
  unfold z_aA
  split <;> (simp [Bl.flat]; omega)
 | .two l p m q e r, h => by
  have h1 := z_aV p h.2.2.1
  have h2 := z_aV q h.2.2.2.1
  have h3 := z_aV r h.2.2.2.2
  unfold z_aA
  split <;> (simp [Bl.flat]; omega)
end
section
theorem z_cj {s : ByteArray} (h : z_ac s = true) : s.size ≤ 8 := by
 unfold z_ac z_i2 at h
 simp only [Bool.and_eq_true, decide_eq_true_eq] at h
 have := h.2.2
 simpa using this
theorem z_kP {s : ByteArray} (h : z_cC s = true) : s.size ≤ 8 := by
 have e : s.toList.length = s.size := by rw [z_bn]; simp
 unfold z_cC at h
 simp only [Bool.or_eq_true, beq_iff_eq] at h
 rcases h with h | h | h | h <;> (rw [h] at e; simp at e; omega)
theorem z_lt {s : ByteArray} (h : 1 ≤ letN s) : s.size ≤ 8 := by
 have e : s.toList.length = s.size := by rw [z_bn]; simp
 unfold letN at h
 split at h
 ·rename_i h1
  rw [beq_iff_eq] at h1; rw [h1] at e; simp at e; omega
 ·split at h
  ·rename_i h1
   simp only [Bool.or_eq_true, beq_iff_eq] at h1
   rcases h1 with h1 | h1 | h1 <;> (rw [h1] at e; simp at e; omega)
  ·omega
structure GoodD (k : Int) (d : Bd) : Prop where
 args : ∀ s ∈ d.args, z_an s = true
 args3 : d.args.length ≤ 3
 to : d.to = eS ∨ z_ac d.to = true
 name8 : d.name.size ≤ 8
 undo8 : d.undo.size ≤ 8
 opens : z_am k = true → d.to = eS ∧ d.undo = eS
 bare : k = 9 ∨ z_ae k = true → d.to = eS ∧ d.name = eS ∧ d.args = [] ∧ d.undo = eS
 patch : k = 14 → d.args = []
 branch : k = 6 ∨ k = 8 → d.args.length = 2
 names : k = 1 → ∀ s ∈ d.args, z_ac s = true
 once : k = 1 → d.args.Nodup
theorem z_hQ {ss : List ByteArray} (h : z_cB ss ss.length = false) : ss.Nodup := by
 rw [List.nodup_iff_pairwise_ne, List.pairwise_iff_getElem]
 intro i j hi hj hij e
 have := z_eP ss j ss.length hj hj (by
  rw [z_ci, ← e]
  exact List.mem_take_iff_getElem.2 ⟨i, by omega, rfl⟩)
 rw [this] at h; cases h
theorem z_b5 : eS.size ≤ 8 := by decide
theorem z_dS {p : ByteArray → Bool} {ss : List ByteArray} (h : allB p ss = true) : ∀ s ∈ ss, p s = true := by
 unfold allB at h
 rw [List.all_eq_true] at h
 exact h
theorem z_lY {s : ByteArray} (h : z_ac s = true) : z_an s = true := by rw [z_an, h]; rfl
theorem z_lO {k : Int} {ws : List ByteArray} {d : Bd} (h : z_af k ws = some d) : GoodD k d := by
 have hnext : ∀ {ws : List ByteArray} {d : Bd}, pNext ws = some d → (∀ s ∈ d.args, z_an s = true) ∧ d.args.length ≤ 3 ∧ d.to = eS ∧ d.name = eS ∧ d.undo = eS := by
  intro ws d hx
  rw [pNext.eq_def] at hx
  split at hx
  ·rename_i hh
   cases hx
   exact ⟨z_dS hh.2, hh.1, rfl, rfl, rfl⟩
  ·cases hx
 have hdo : ∀ {vs : List ByteArray} {u : ByteArray} {d : Bd}, u.size ≤ 8 → pDo0 vs u = some d → (∀ s ∈ d.args, z_an s = true) ∧ d.args.length ≤ 3 ∧ z_ac d.to = true ∧ d.name.size ≤ 8 ∧ d.undo.size ≤ 8 := by
  intro vs u d hu hx
  rw [pDo0.eq_def] at hx
  split at hx
  ·split at hx
   ·rename_i hh
    cases hx
    exact ⟨z_dS hh.2.2.2, hh.2.2.1, hh.1, z_cj hh.2.1, hu⟩
   ·cases hx
  ·cases hx
 rw [z_af] at h
 split at h
 ·rename_i hk; subst hk
  rw [pHead.eq_def] at h
  split at h
  ·cases h
  ·split at h
   ·rename_i hh
    cases h
    have h1 := hh.2.1
    rw [z_c7, Bool.and_eq_true] at h1
    exact ⟨fun s hs => z_lY (z_dS h1.2 s hs), hh.1, .inl rfl, z_cj h1.1, z_b5, fun hx => absurd hx (by decide), fun hx => by rcases hx with hx | hx <;> simp [z_ae] at hx, fun hx => absurd hx (by decide), fun hx => absurd hx (by decide), fun _ => z_dS h1.2, fun _ => z_hQ hh.2.2⟩
   ·cases h
 split at h
 ·rename_i hk; subst hk
  rw [pLet.eq_def] at h
  split at h
  ·split at h
   ·rename_i a b c r hh
    cases h
    have h3 := hh.2.2
    have h4 : letN b ≤ 2 := by unfold letN; split <;> (try split) <;> decide
    exact ⟨z_dS hh.2.1, by simp; omega, .inr hh.1, z_lt (s := b) (by omega), z_b5, fun hx => absurd hx (by decide), fun hx => by rcases hx with hx | hx <;> simp [z_ae] at hx, fun hx => absurd hx (by decide), fun hx => absurd hx (by decide), fun hx => absurd hx (by decide), fun hx => absurd hx (by decide)⟩
   ·cases h
  ·cases h
 split at h
 ·rename_i hk; subst hk
  have fin : ∀ {vs : List ByteArray} {u : ByteArray}, u.size ≤ 8 → pDo0 vs u = some d → GoodD 3 d := by
   intro vs u hu hx
   obtain ⟨h1, h2, h3, h4, h5⟩ := hdo hu hx
   exact ⟨h1, h2, .inr h3, h4, h5, fun hx => absurd hx (by decide), fun hx => by rcases hx with hx | hx <;> simp [z_ae] at hx, fun hx => absurd hx (by decide), fun hx => absurd hx (by decide), fun hx => absurd hx (by decide), fun hx => absurd hx (by decide)⟩
  rw [pDo.eq_def] at h
  split at h
  ·split at h
   ·rename_i hh; exact fin (z_cj hh) h
   ·cases h
  ·exact fin z_b5 h
 split at h
 ·rename_i hk; subst hk
  rw [pGet.eq_def] at h
  split at h
  ·split at h
   ·rename_i hh
    cases h
    exact ⟨by simp, by simp, .inr hh.1, z_cj hh.2, z_b5, fun hx => absurd hx (by decide), fun hx => by rcases hx with hx | hx <;> simp [z_ae] at hx, fun hx => absurd hx (by decide), fun hx => absurd hx (by decide), fun hx => absurd hx (by decide), fun hx => absurd hx (by decide)⟩
   ·cases h
  ·split at h
   ·rename_i hh
    cases h
    exact ⟨by simpa using hh.2.2.2, by simp, .inr hh.1, z_cj hh.2.1, z_b5, fun hx => absurd hx (by decide), fun hx => by rcases hx with hx | hx <;> simp [z_ae] at hx, fun hx => absurd hx (by decide), fun hx => absurd hx (by decide), fun hx => absurd hx (by decide), fun hx => absurd hx (by decide)⟩
   ·cases h
  ·cases h
 split at h
 ·rename_i hk
  rw [pTest.eq_def] at h
  split at h
  ·split at h
   ·rename_i hh
    cases h
    refine ⟨by simpa using ⟨hh.1, hh.2.2⟩, by simp, .inl rfl, z_kP hh.2.1, z_b5, fun _ => ⟨rfl, rfl⟩, fun hx => ?_, fun hx => ?_, fun _ => rfl, fun hx => ?_, fun hx => by omega⟩
    ·rcases hk with rfl | rfl <;> (rcases hx with hx | hx <;> simp [z_ae] at hx)
    ·omega
    ·omega
   ·cases h
  ·cases h
 split at h
 ·rename_i hk
  rw [pNothing.eq_def] at h
  split at h
  ·cases h
   exact ⟨by simp, by simp, .inl rfl, z_b5, z_b5, fun _ => ⟨rfl, rfl⟩, fun _ => ⟨rfl, rfl, rfl, rfl⟩, fun _ => rfl, fun hx => by omega, by simp, fun hx => by omega⟩
  ·cases h
 split at h
 ·rename_i hk
  rw [pOperand.eq_def] at h
  split at h
  ·obtain ⟨h1, h2, h3, h4, h5⟩ := hnext h
   refine ⟨h1, h2, .inl h3, by rw [h4]; exact z_b5, by rw [h5]; exact z_b5, fun _ => ⟨h3, h5⟩, fun hx => ?_, fun hx => by omega, fun hx => by omega, fun hx => by omega, fun hx => by omega⟩
   rcases hk with rfl | rfl | rfl <;> (rcases hx with hx | hx <;> simp [z_ae] at hx)
  ·cases h
 split at h
 ·rename_i hk; subst hk
  rw [pPatch.eq_def] at h
  split at h
  ·split at h
   ·rename_i hh
    cases h
    exact ⟨by simp, by simp, .inl rfl, z_cj hh, z_b5, fun _ => ⟨rfl, rfl⟩, fun hx => by rcases hx with hx | hx <;> simp [z_ae] at hx, fun _ => rfl, fun hx => absurd hx (by decide), fun hx => absurd hx (by decide), fun hx => absurd hx (by decide)⟩
   ·cases h
  ·cases h
 split at h
 ·rename_i hk; subst hk
  obtain ⟨h1, h2, h3, h4, h5⟩ := hnext h
  exact ⟨h1, h2, .inl h3, by rw [h4]; exact z_b5, by rw [h5]; exact z_b5, fun hx => absurd hx (by decide), fun hx => by rcases hx with hx | hx <;> simp [z_ae] at hx, fun hx => absurd hx (by decide), fun hx => absurd hx (by decide), fun hx => absurd hx (by decide), fun hx => absurd hx (by decide)⟩
 ·cases h
end
section
open Go.RowKit
section
variable {w w' : World} {base size n cap g : Nat} {e : TypeId} {xs : List Value} {v : Value}
theorem z_gP (h : w.ownsRow base e size (.slice (some ⟨g, 0, none⟩) n cap) n xs) (k : Nat) (hk : k ≤ n) : w.ownsRow base e size (.slice (some ⟨g, 0, none⟩) k cap) k (xs.take (k * size)) := by
 have hm : k * size ≤ n * size := Nat.mul_le_mul_right _ hk
 refine ⟨?_, ?_⟩
 ·rw [List.length_take, h.1]; omega
 ·rcases h.2 with ⟨hv, _⟩ | ⟨g', cap', cur, hv, hb, hg, hn, hc, hs, ht⟩
  ·cases hv
  ·cases hv
   refine .inr ⟨g, cap, cur, rfl, hb, hg, by omega, hc, hs, ?_⟩
   rw [← ht, List.take_take, Nat.min_eq_left hm]
theorem z_cS (h : w.ownsRow base e size (.slice (some ⟨g, 0, none⟩) n cap) n xs) (j : Nat) (u : Value) : (w.setCell ⟨g, j, none⟩ u).ownsRow base e size (.slice (some ⟨g, 0, none⟩) n cap) n (xs.set j u) := by
 refine ⟨by rw [List.length_set]; exact h.1, ?_⟩
 rcases h.2 with ⟨hv, _⟩ | ⟨g', cap', cur, hv, hb, hg, hn, hc, hs, ht⟩
 ·cases hv
 ·cases hv
  refine .inr ⟨g, cap, cur.setIfInBounds j u, rfl, hb, heap_setCell_same w g j cur e u hg, hn, hc, by simp [hs], ?_⟩
  rw [Array.toList_setIfInBounds, List.take_set, ht]
theorem z_ay (h : w.ownsRow base e size v n xs) (hb : Below w.heap.size w w') : w'.ownsRow base e size v n xs := by
 refine ⟨h.1, ?_⟩
 rcases h.2 with hn | ⟨g', cap', cur, hv, h1, hg, rest⟩
 ·exact .inl hn
 ·refine .inr ⟨g', cap', cur, hv, h1, ?_, rest⟩
  rw [hb.block g' (Array.getElem?_eq_some_iff.1 hg).1]; exact hg
theorem z_bh {base' : Nat} (h : w.ownsRow base e size v n xs) (hb : base' ≤ base) : w.ownsRow base' e size v n xs := by
 refine ⟨h.1, ?_⟩
 rcases h.2 with hn | ⟨g', cap', cur, hv, h1, rest⟩
 ·exact .inl hn
 ·exact .inr ⟨g', cap', cur, hv, Nat.le_trans hb h1, rest⟩
theorem z_bx {row : Option Nat} (h : Below w.heap.size w w') : w.grownBy w' row := ⟨h.os, h.tape, h.output, h.size, fun k hk _ => h.block k hk⟩
theorem z_bY {row : Option Nat} : w.grownBy w row := z_bx (Below.refl _ _)
theorem z_ah {w'' : World} {row row' : Option Nat} (h : w.grownBy w' row) (h' : w'.grownBy w'' row') (hr : row' = row ∨ ∀ k, row' = some k → w.heap.size ≤ k) : w.grownBy w'' row :=
 ⟨h'.os.trans h.os, h'.tape.trans h.tape, h'.output.trans h.output, Nat.le_trans h.size h'.size, fun k hk hne => (h'.block k (Nat.lt_of_lt_of_le hk h.size) (fun e => by
  rcases hr with hr | hr
  ·exact hne (e.trans hr)
  ·have := hr k e.symm; omega)).trans (h.block k hk hne)⟩
theorem z_aj (g j : Nat) (u : Value) : w.grownBy (w.setCell ⟨g, j, none⟩ u) (some g) :=
 ⟨rfl, rfl, rfl, by simp [World.setCell], fun k _ hne => Below.heap_setCell w _ u k (fun e => hne (by rw [e]))⟩
theorem z_dy {row : Option Nat} (h : w.grownBy w' row) (hb : base ≤ w.heap.size) (hr : ∀ k, row = some k → base ≤ k) : Below base w w' := (Below.refl _ _).grown h hb hr
end
theorem z_aq {w : World} {base n size : Nat} {e : TypeId} {v : Value} {xs : List Value} (h : w.ownsRow base e size v n xs) : ∃ ao cap, v = .slice ao n cap ∧ n ≤ cap := by
 rcases h.2 with ⟨rfl, rfl⟩ | ⟨g, cap, cur, rfl, _, _, hn, _⟩
 ·exact ⟨none, 0, rfl, Nat.le_refl _⟩
 ·exact ⟨_, _, rfl, hn⟩
end
section
open Go.RowKit
theorem Tryz.infoOpn : (Tryz.prog.info? 174).map (fun i => (i.zero, i.size, i.bytes)) = some (some (.agg #[.int .i64 0, .bool false]), 2, 16) := by kernel_rfl
def z_aB (os : List Opn) : List Value := os.flatMap fun o => [.int .i64 o.1, .bool o.2]
theorem z_bu (a b : List Opn) : z_aB (a ++ b) = z_aB a ++ z_aB b := by simp [z_aB]
theorem z_a5 : ∀ os : List Opn, (z_aB os).length = os.length * 2
 | [] => rfl
 | o :: r => by
  have := z_a5 r
  simp only [z_aB, List.flatMap_cons, List.length_append, List.length_cons, List.length_nil] at this ⊢
  omega
theorem z_my (os : List Opn) (o : Opn) : (z_aB (os ++ [o]))[os.length * 2]? = some (.int .i64 o.1) ∧ (z_aB (os ++ [o]))[os.length * 2 + 1]? = some (.bool o.2) := by
 rw [z_bu]
 constructor
 ·rw [List.getElem?_append_right (by rw [z_a5]; omega), z_a5, Nat.sub_self]; rfl
 ·rw [List.getElem?_append_right (by rw [z_a5]; omega), z_a5, Nat.add_sub_cancel_left]; rfl
theorem z_nv (os : List Opn) (o : Opn) (b : Bool) : (z_aB (os ++ [o])).set (os.length * 2 + 1) (.bool b) = z_aB (os ++ [(o.1, b)]) := by
 rw [z_bu, z_bu, List.set_append_right _ _ (by rw [z_a5]; omega), z_a5, Nat.add_sub_cancel_left]; rfl
theorem z_mV (os : List Opn) (o : Opn) : (z_aB (os ++ [o])).take (os.length * 2) = z_aB os := by
 rw [z_bu, List.take_append_of_le_length (by rw [z_a5]; omega), List.take_of_length_le (by rw [z_a5]; omega)]
def z_eK (base : Nat) (w : World) (v : Value) (r : List Opn × Bool) (e : Ending) (w' : World) : Prop :=
 ∃ v', e = .returned (.tuple #[v', .bool r.2]) ∧ w.grownBy w' v.ownBlock ∧ w'.ownsRow base 174 2 v' r.1.length (z_aB r.1)
theorem z_kF (w : World) (a b : Value) (t : TypeId) : ∀ j u, [a, b][j]? = some u → (w.alloc (.cells #[a, b] t)).cell? ((⟨w.heap.size, 0, none⟩ : Addr).add j) = some u := by
 intro j u hj
 match j, hj with
 | 0, hj => simp at hj; subst hj; simp [Addr.add]
 | 1, hj => simp at hj; subst hj; simp [Addr.add]
 | j + 2, hj => simp at hj
theorem z_dX (os : List Opn) (v : Value) (k : Int) (first : Bool) (base : Nat) (w : World) (ho : w.ownsRow base 174 2 v os.length (z_aB os)) (hf : ((k == 1) != first) = true) :
  Calls Tryz.prog 92 #[v, .int .i64 k, .bool first] w fun e w' => z_eK base w v (z_aR os k first) e w' := by
 have HN : Hid (z_aR os k first = (os, false)) := by show _ = _; rw [z_aR, if_pos hf]
 have HO : Hid (w.ownsRow base 174 2 v os.length (z_aB os)) := ho
 have hq : (k == 1) = !first := by cases h1 : (k == 1) <;> cases first <;> simp_all
 clear ho hf
 cases first
 all_goals
  simp only [Bool.not_true, Bool.not_false] at hq
  go_enter Tryz.func92, Tryz.ntmps92
  go_wp2
  go_ret2
  exact ⟨_, (by rw [HN.out]; rfl), z_bY, by rw [HN.out]; exact HO.out⟩
theorem z_eO (os : List Opn) (v : Value) (k : Int) (first : Bool) (base : Nat) (w : World) (hb : base ≤ w.heap.size) (hl : os.length ≤ 1000) (ho : w.ownsRow base 174 2 v os.length (z_aB os)) (hc : z_ae k = false) :
  Calls Tryz.prog 92 #[v, .int .i64 k, .bool first] w fun e w' => z_eK base w v (z_aR os k first) e w' := by
 obtain ⟨i0, hi0, hz0, hz1, hz2⟩ := info_parts Tryz.infoOpn
 have HO : Hid (w.ownsRow base 174 2 v os.length (z_aB os)) := ho
 clear ho
 by_cases hf : ((k == 1) != first) = true
 ·exact z_dX os v k first base w HO.out hf
 ·have hf0 : ((k == 1) != first) = false := by simpa using hf
  clear hf
  cases hk : z_am k with
  | true =>
   have HN : Hid (z_aR os k first = (os ++ [(k, false)], true)) := by show _ = _; rw [z_aR, hf0, hk]; rfl
   have hq : (k == 1) = first := by cases h1 : (k == 1) <;> cases first <;> simp_all
   clear hf0
   cases first
   all_goals
    go_enter Tryz.func92, Tryz.ntmps92
    go_wp2_with (first
     | (go_at_call 84; refine (z_ba _ _).mono ?_; rintro e w ⟨rfl, rfl⟩; rw [hk])
     | (at_builtin; refine wpList_append_own _ rfl _ _ 128 rfl base 174 i0 _ 2 16 Tryz.underlying128 hi0 hz0 hz1 hz2 rfl (by decide) _ _ _ rfl (HO.out.alloc _) ⟨w.heap.size, 0, none⟩ 1 1 [.int .i64 k, .bool false] rfl rfl (z_kF _ _ _ _) (fun u hu => by simp at hu; rcases hu with rfl | rfl <;> rfl) (by unfold maxLen; omega) (by omega) (by simp; omega) ?_; intro v' w3 hown' hgrow3 hnil3; have hb3 : w.grownBy w3 v.ownBlock := z_ah (z_bx ((Below.refl _ _).alloc (Nat.le_refl _) _)) hgrow3 (.inl (by rfl)); have X : Aside (w3.ownsRow base 174 2 v' (os ++ [(k, false)]).length (z_aB (os ++ [(k, false)])) ∧ w.grownBy w3 v.ownBlock) := ⟨by rw [z_bu, List.length_append]; exact hown', hb3⟩; clear hown' hgrow3 hnil3 hb3))
    go_ret2
    exact ⟨_, (by rw [HN.out]; rfl), X.out.2, by rw [HN.out]; exact X.out.1⟩
  | false =>
   have HN : Hid (z_aR os k first = (os, true)) := by show _ = _; rw [z_aR, hf0, hk, hc]; rfl
   have hq : (k == 1) = first := by cases h1 : (k == 1) <;> cases first <;> simp_all
   clear hf0
   cases first
   all_goals
    go_enter Tryz.func92, Tryz.ntmps92
    go_wp2_with (first
     | (go_at_call 84; refine (z_ba _ _).mono ?_; rintro e w ⟨rfl, rfl⟩; rw [hk])
     | (go_at_call 74; refine (z_bp _ _).mono ?_; rintro e w ⟨rfl, rfl⟩; rw [hc]))
    go_ret2
    exact ⟨_, (by rw [HN.out]; rfl), z_bY, by rw [HN.out]; exact HO.out⟩
end
section
open Go.RowKit
theorem z_dx {k : Int} (h : z_ae k = true) : (k == 1) = false := by
 rw [z_bd] at h
 rcases h with rfl | rfl | rfl <;> rfl
theorem z_fq (v : Value) (k : Int) (base : Nat) (w : World) (ho : w.ownsRow base 174 2 v 0 []) (hc : z_ae k = true) :
  Calls Tryz.prog 92 #[v, .int .i64 k, .bool false] w fun e w' => z_eK base w v (z_aR [] k false) e w' := by
 have hq := z_dx hc
 have hk := z_c hc
 have HN : Hid (z_aR [] k false = ([], false)) := by show _ = _; rw [z_aR, hq, hk, hc]; rfl
 have HO : Hid (w.ownsRow base 174 2 v 0 []) := ho
 rcases ho.2 with ⟨rfl, _⟩ | ⟨g, cap, cur, rfl, _⟩
 all_goals
  clear ho
  go_enter Tryz.func92, Tryz.ntmps92
  go_wp2_with (first
   | (go_at_call 84; refine (z_ba _ _).mono ?_; rintro e w ⟨rfl, rfl⟩; rw [hk])
   | (go_at_call 74; refine (z_bp _ _).mono ?_; rintro e w ⟨rfl, rfl⟩; rw [hc]))
  go_ret2
  exact ⟨_, (by rw [HN.out]; rfl), z_bY, by rw [HN.out]; exact HO.out⟩
theorem z_mE {w : World} {base : Nat} {v : Value} {os : List Opn} {x : Int} {t : Bool} (ho : w.ownsRow base 174 2 v (os ++ [(x, t)]).length (z_aB (os ++ [(x, t)]))) :
  ∃ g cap, v = .slice (some ⟨g, 0, none⟩) (os.length + 1) cap ∧ os.length + 1 ≤ cap ∧ base ≤ g ∧ g < w.heap.size ∧ w.cell? ⟨g, os.length * 2, none⟩ = some (.int .i64 x) ∧ w.cell? ⟨g, os.length * 2 + 1, none⟩ = some (.bool t) ∧ w.frozen? ⟨g, os.length * 2 + 1, none⟩ = false ∧
   w.ownsRow base 174 2 (.slice (some ⟨g, 0, none⟩) (os.length + 1) cap) (os.length + 1) (z_aB (os ++ [(x, t)])) := by
 have hlen : (os ++ [(x, t)]).length = os.length + 1 := by simp
 rw [hlen] at ho
 have h0 := ho
 rcases ho.2 with ⟨_, h⟩ | ⟨g, cap, cur, rfl, hb, hg, hn, hm, hs, ht⟩
 ·omega
 ·obtain ⟨e1, e2⟩ := z_my os (x, t)
  have hl2 : (z_aB (os ++ [(x, t)])).length = os.length * 2 + 2 := by rw [z_a5, hlen]; omega
  refine ⟨g, cap, rfl, hn, hb, (h0.lt g rfl).2, ?_, ?_, frozen_of_row w g _ cur _ hg, h0⟩
  ·rw [h0.cellAt _ (by omega)]; exact e1
  ·rw [h0.cellAt _ (by omega)]; exact e2
theorem z_es {w : World} {base g cap : Nat} {os : List Opn} {x : Int} {t : Bool} (ho : w.ownsRow base 174 2 (.slice (some ⟨g, 0, none⟩) (os.length + 1) cap) (os.length + 1) (z_aB (os ++ [(x, t)]))) (hg : base ≤ g) :
  w.grownBy (w.setCell ⟨g, os.length * 2 + 1, none⟩ (.bool true)) (some g) ∧ (w.setCell ⟨g, os.length * 2 + 1, none⟩ (.bool true)).ownsRow base 174 2 (.slice (some ⟨g, 0, none⟩) (os.length + 1) cap) (os ++ [(x, true)]).length (z_aB (os ++ [(x, true)])) := by
 refine ⟨z_aj _ _ _, ?_⟩
 have h := z_cS ho (os.length * 2 + 1) (.bool true)
 rw [z_nv] at h
 rw [show (os ++ [(x, true)]).length = os.length + 1 by simp]
 exact h
theorem z_iy (os : List Opn) (x : Int) (t : Bool) (k : Int) (hc : z_ae k = true) : z_aR (os ++ [(x, t)]) k false = if k = 7 then (os ++ [(x, true)], z_aE x && !t) else if k = 10 then (os ++ [(x, true)], (x == 9) && !t) else (os, (x != 9) || t) := by
 have hq := z_dx hc
 have hk := z_c hc
 rw [z_aR, hq, hk, hc]
 simp
theorem z_jx (os : List Opn) (x : Int) (t : Bool) (g cap : Nat) (base : Nat) (w : World) (hn : os.length + 1 ≤ cap) (hl : cap ≤ 9223372036854775807) (hg : base ≤ g)
  (c0 : w.cell? ⟨g, os.length * 2, none⟩ = some (.int .i64 x)) (c1 : w.cell? ⟨g, os.length * 2 + 1, none⟩ = some (.bool t)) (f1 : w.frozen? ⟨g, os.length * 2 + 1, none⟩ = false) :
  Calls Tryz.prog 92 #[.slice (some ⟨g, 0, none⟩) (os.length + 1) cap, .int .i64 7, .bool false] w fun e w' => e = .returned (.tuple #[.slice (some ⟨g, 0, none⟩) (os.length + 1) cap, .bool (z_aE x && !t)]) ∧ w' = w.setCell ⟨g, os.length * 2 + 1, none⟩ (.bool true) := by
 cases hx : z_aE x <;> cases t
 all_goals
  go_enter Tryz.func92, Tryz.ntmps92
  go_wp2_with (first
   | (go_at_call 84; refine (z_ba _ _).mono ?_; rintro e w ⟨rfl, rfl⟩; rw [show z_am 7 = false from rfl])
   | (go_at_call 74; refine (z_bp _ _).mono ?_; rintro e w ⟨rfl, rfl⟩; rw [show z_ae 7 = true from rfl])
   | (go_at_call 110; refine (z_aW _ _).mono ?_; rintro e w ⟨rfl, rfl⟩; rw [hx]))
  go_ret2
  exact ⟨rfl, rfl⟩
end
section
open Go.RowKit
theorem z_is (os : List Opn) (x : Int) (t : Bool) (g cap : Nat) (base : Nat) (w : World) (hn : os.length + 1 ≤ cap) (hl : cap ≤ 9223372036854775807) (hg : base ≤ g)
  (c0 : w.cell? ⟨g, os.length * 2, none⟩ = some (.int .i64 x)) (c1 : w.cell? ⟨g, os.length * 2 + 1, none⟩ = some (.bool t)) (f1 : w.frozen? ⟨g, os.length * 2 + 1, none⟩ = false) :
  Calls Tryz.prog 92 #[.slice (some ⟨g, 0, none⟩) (os.length + 1) cap, .int .i64 10, .bool false] w fun e w' => e = .returned (.tuple #[.slice (some ⟨g, 0, none⟩) (os.length + 1) cap, .bool ((x == 9) && !t)]) ∧ w' = w.setCell ⟨g, os.length * 2 + 1, none⟩ (.bool true) := by
 cases hx : (x == 9) <;> cases t
 all_goals
  go_enter Tryz.func92, Tryz.ntmps92
  go_wp2_with (first
   | (go_at_call 84; refine (z_ba _ _).mono ?_; rintro e w ⟨rfl, rfl⟩; rw [show z_am 10 = false from rfl])
   | (go_at_call 74; refine (z_bp _ _).mono ?_; rintro e w ⟨rfl, rfl⟩; rw [show z_ae 10 = true from rfl]))
  go_ret2
  exact ⟨rfl, rfl⟩
theorem z_i1 (os : List Opn) (x : Int) (t : Bool) (g cap : Nat) (base : Nat) (w : World) (hn : os.length + 1 ≤ cap) (hl : cap ≤ 9223372036854775807) (hg : base ≤ g)
  (c0 : w.cell? ⟨g, os.length * 2, none⟩ = some (.int .i64 x)) (c1 : w.cell? ⟨g, os.length * 2 + 1, none⟩ = some (.bool t)) (f1 : w.frozen? ⟨g, os.length * 2 + 1, none⟩ = false) :
  Calls Tryz.prog 92 #[.slice (some ⟨g, 0, none⟩) (os.length + 1) cap, .int .i64 11, .bool false] w fun e w' => e = .returned (.tuple #[.slice (some ⟨g, 0, none⟩) os.length cap, .bool ((x != 9) || t)]) ∧ ∃ q, w' = w.drewN q := by
 by_cases hx : x = 9
 ·subst hx
  go_enter Tryz.func92, Tryz.ntmps92
  go_wp2_with (first
   | (go_at_call 84; refine (z_ba _ _).mono ?_; rintro e w ⟨rfl, rfl⟩; rw [show z_am 11 = false from rfl])
   | (go_at_call 74; refine (z_bp _ _).mono ?_; rintro e w ⟨rfl, rfl⟩; rw [show z_ae 11 = true from rfl]))
  go_quiet (fail)
  go_wp2
  go_ret2
  exact ⟨rfl, _, rfl⟩
 ·have hq : (x == 9) = false := by simpa using hx
  have hq2 : (x != 9) = true := by simpa using hx
  clear hx
  go_enter Tryz.func92, Tryz.ntmps92
  go_wp2_with (first
   | (go_at_call 84; refine (z_ba _ _).mono ?_; rintro e w ⟨rfl, rfl⟩; rw [show z_am 11 = false from rfl])
   | (go_at_call 74; refine (z_bp _ _).mono ?_; rintro e w ⟨rfl, rfl⟩; rw [show z_ae 11 = true from rfl]))
  go_quiet (fail)
  go_wp2
  go_ret2
  exact ⟨by rw [hq2]; rfl, _, rfl⟩
theorem z_gt (os : List Opn) (v : Value) (k : Int) (first : Bool) (base : Nat) (w : World) (hb : base ≤ w.heap.size) (hl : os.length ≤ 1000) (ho : w.ownsRow base 174 2 v os.length (z_aB os)) :
  Calls Tryz.prog 92 #[v, .int .i64 k, .bool first] w fun e w' => z_eK base w v (z_aR os k first) e w' := by
 by_cases hf : ((k == 1) != first) = true
 ·exact z_dX os v k first base w ho hf
 ·cases hc : z_ae k with
  | false => exact z_eO os v k first base w hb hl ho hc
  | true =>
   have h1 := z_dx hc
   have : first = false := by rw [h1] at hf; cases first <;> simp_all
   subst this
   rcases List.eq_nil_or_concat os with rfl | ⟨os0, ⟨x, t⟩, rfl⟩
   ·exact z_fq v k base w ho hc
   ·rw [List.concat_eq_append] at ho hl ⊢
    obtain ⟨g, cap, rfl, hn, hg, hgw, c0, c1, f1, ho2⟩ := z_mE ho
    have hcap : cap ≤ 9223372036854775807 := by
     rcases ho2.2 with ⟨h, _⟩ | ⟨_, _, _, h, _, _, _, hm, _⟩
     ·cases h
     ·cases h; unfold maxLen at hm; omega
    rw [z_iy os0 x t k hc]
    rw [z_bd] at hc
    rcases hc with rfl | rfl | rfl
    ·obtain ⟨a, b⟩ := z_es ho2 hg
     refine (z_jx os0 x t g cap base w hn hcap hg c0 c1 f1).mono ?_
     rintro e w' ⟨rfl, rfl⟩
     exact ⟨_, rfl, a, b⟩
    ·obtain ⟨a, b⟩ := z_es ho2 hg
     refine (z_is os0 x t g cap base w hn hcap hg c0 c1 f1).mono ?_
     rintro e w' ⟨rfl, rfl⟩
     exact ⟨_, rfl, a, b⟩
    ·refine (z_i1 os0 x t g cap base w hn hcap hg c0 c1 f1).mono ?_
     rintro e w' ⟨rfl, q, rfl⟩
     have hb3 : Below w.heap.size w (w.drewN q) := z_aa (Below.refl _ _) _
     refine ⟨_, rfl, z_bx hb3, ?_⟩
     have := z_ay (z_gP ho2 os0.length (by omega)) hb3
     rw [z_mV] at this
     exact this
end
section
open Go.RowKit
def LineAt (B : Nat) (w : World) (b o : Nat) (l : Ln) : Prop :=
 ∃ ao cap, l.2.args.length ≤ cap ∧ w.cell? ⟨b, o, none⟩ = some (.int .i64 l.1) ∧ w.cell? ⟨b, o + 1, none⟩ = some (.string l.2.to) ∧ w.cell? ⟨b, o + 2, none⟩ = some (.string l.2.name) ∧ w.cell? ⟨b, o + 3, none⟩ = some (.slice ao l.2.args.length cap) ∧ w.cell? ⟨b, o + 4, none⟩ = some (.string l.2.undo) ∧ StrsAt 0 B w ao l.2.args
def LinesAt (B : Nat) (w : World) (ao : Option Addr) (ls : List Ln) : Prop :=
 ∀ k (h : k < ls.length), ∃ b off, ao = some ⟨b, off, none⟩ ∧ b < B ∧ LineAt B w b (off + k * 5) ls[k]
structure LnSz (l : Ln) : Prop where
 len : l.2.args.length ≤ 1048576
 to : l.2.to.size ≤ 1048576
 name : l.2.name.size ≤ 1048576
 undo : l.2.undo.size ≤ 1048576
 args : ∀ s ∈ l.2.args, s.size ≤ 1048576
structure LnMx (l : Ln) : Prop where
 len : l.2.args.length ≤ 9223372036854775807
 to : l.2.to.size ≤ 9223372036854775807
 name : l.2.name.size ≤ 9223372036854775807
 undo : l.2.undo.size ≤ 9223372036854775807
 args : ∀ s ∈ l.2.args, s.size ≤ 9223372036854775807
section
variable {B B' : Nat} {w w' : World} {b o : Nat} {l : Ln} {ao : Option Addr} {ls : List Ln}
theorem LineAt.below (h : LineAt B w b o l) (hb : Below B w w') (hB : b < B) : LineAt B w' b o l := by
 obtain ⟨ao, cap, h0, h1, h2, h3, h4, h5, h6⟩ := h
 exact ⟨ao, cap, h0, (hb.cell (p := ⟨b, _, none⟩) hB).trans h1, (hb.cell (p := ⟨b, _, none⟩) hB).trans h2, (hb.cell (p := ⟨b, _, none⟩) hB).trans h3, (hb.cell (p := ⟨b, _, none⟩) hB).trans h4, (hb.cell (p := ⟨b, _, none⟩) hB).trans h5, h6.below hb⟩
theorem LineAt.mono (h : LineAt B w b o l) (hB : B ≤ B') : LineAt B' w b o l := by
 obtain ⟨ao, cap, h0, h1, h2, h3, h4, h5, h6⟩ := h
 exact ⟨ao, cap, h0, h1, h2, h3, h4, h5, h6.mono (Nat.le_refl _) hB⟩
theorem LinesAt.below (h : LinesAt B w ao ls) (hb : Below B w w') : LinesAt B w' ao ls := by
 intro k hk
 obtain ⟨b, off, e, hB, hl⟩ := h k hk
 exact ⟨b, off, e, hB, hl.below hb hB⟩
theorem LinesAt.mono (h : LinesAt B w ao ls) (hB : B ≤ B') : LinesAt B' w ao ls := by
 intro k hk
 obtain ⟨b, off, e, hb, hl⟩ := h k hk
 exact ⟨b, off, e, Nat.lt_of_lt_of_le hb hB, hl.mono hB⟩
theorem LinesAt.later (h : LinesAt w.heap.size w ao ls) (hb : Below w.heap.size w w') : LinesAt w'.heap.size w' ao ls := (h.below hb).mono hb.size
theorem LinesAt.nil : LinesAt B w ao [] := fun k hk => by simp at hk
theorem LinesAt.drop {off : Nat} (h : LinesAt B w (some ⟨b, off, none⟩) ls) (n : Nat) : LinesAt B w (some ⟨b, off + n * 5, none⟩) (ls.drop n) := by
 intro k hk
 have hk' : n + k < ls.length := by simp at hk; omega
 obtain ⟨b', off', e, hB, hl⟩ := h (n + k) hk'
 cases e
 refine ⟨b, off + n * 5, rfl, hB, ?_⟩
 have e2 : off + n * 5 + k * 5 = off + (n + k) * 5 := by omega
 rw [e2, List.getElem_drop]; exact hl
theorem LinesAt.take (h : LinesAt B w ao ls) (n : Nat) : LinesAt B w ao (ls.take n) := by
 intro k hk
 have hk' : k < ls.length := by simp at hk; omega
 obtain ⟨b', off', e, hB, hl⟩ := h k hk'
 exact ⟨b', off', e, hB, by rw [List.getElem_take]; exact hl⟩
end
def standB (ls : List Ln) (back : Ln → Bool) : Prop := ls ≠ [] ∧ (∀ l ∈ ls, back l = true) ∧ z_aL true [] (z_bf ls) = some []
theorem z_fh (ls : List Ln) (k : Nat) (h : k < ls.length) : z_bf (ls.take (k + 1)) = z_bf (ls.take k) ++ [ls[k].1] := by
 rw [z_bf, z_bf, List.take_succ_eq_append_getElem h, List.map_append]; rfl
theorem z_jG (ls : List Ln) (k : Nat) : z_bf ls = z_bf (ls.take k) ++ z_bf (ls.drop k) := by
 rw [z_bf, z_bf, z_bf, ← List.map_append, List.take_append_drop]
theorem z_hn {ls : List Ln} {k : Nat} (h : z_aL true [] (z_bf (ls.take k)) = none) : z_aL true [] (z_bf ls) ≠ some [] := by
 rw [z_jG ls k, z_fb _ _ _ _ h]; simp
end
section
open Go.RowKit
def z_d8 (v : Value) : Prop := ∃ (ln c : Int), v = .iface 96 (.agg #[.int .i64 ln, .int .i64 c]) ∧ c ≠ 0
theorem z_gk {ls : List Ln} {k : Nat} {os : List Opn} (hk : k < ls.length) (hp : z_aL true [] (z_bf (ls.take k)) = some os) :
  z_aL true [] (z_bf (ls.take (k + 1))) = z_bo (decide (k = 0)) os ls[k].1 := by
 rw [z_fh ls k hk, z_fs, hp, Option.bind_some]
 congr 1
 cases k with
 | zero => simp [z_bf]
 | succ k =>
  have : (z_bf (ls.take (k + 1))).isEmpty = false := by
   match ls, hk with
   | a :: r, _ => simp [z_bf]
  rw [this]; simp
theorem z_d6 (ao : Option Addr) (cap : Nat) (w : World) :
  Calls Tryz.prog 61 #[.slice ao 0 cap] w fun e w' => ∃ v, e = .returned v ∧ z_d8 v ∧ w' = w := by
 go_enter Tryz.func61, Tryz.ntmps61
 go_wp2
 go_ret
 exact ⟨_, rfl, ⟨_, _, rfl, by decide⟩, rfl⟩
end
end Go.Proofs.YtlbjjbolbopfmaaGreatDoor
