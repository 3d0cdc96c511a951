import Derived.Test.YtlbjjbolbopfmaaGreatDoorJ27
import Derived.Test.YtlbjjbolbopfmaaGreatDoorJ49
import Derived.Deep.RegionHeld3
namespace Go.Proofs.YtlbjjbolbopfmaaGreatDoor
set_option maxHeartbeats 4000000
set_option maxRecDepth 1000000
set_option linter.unusedVariables false
section
open Go.RowKit
def z_ha (s : Stp) : Prop :=
 (∃ c a b : Nat, s.code = c ∧ 1 ≤ c ∧ c ≤ 12 ∧ s.a = a ∧ s.b = b ∧ a ≤ 1000000000 ∧ b ≤ 1000000000) ∧ s.to.size ≤ 1048576 ∧ s.name.size ≤ 1048576 ∧ s.undo.size ≤ 1048576 ∧ s.args.length ≤ 1048576 ∧ ∀ x ∈ s.args, x.size ≤ 1048576
theorem z_mT {k : Int} (h1 : 1 ≤ k) (h2 : k ≤ 15) (h3 : k ≠ 1) (h4 : z_ae k = false) : ∃ c : Nat, z_cg k = c ∧ 1 ≤ c ∧ c ≤ 12 := by
 have hk : k = 2 ∨ k = 3 ∨ k = 4 ∨ k = 5 ∨ k = 6 ∨ k = 7 ∨ k = 8 ∨ k = 9 ∨ k = 10 ∨ k = 11 ∨ k = 12 ∨ k = 13 ∨ k = 14 ∨ k = 15 := by omega
 rcases hk with rfl | rfl | rfl | rfl | rfl | rfl | rfl | rfl | rfl | rfl | rfl | rfl | rfl | rfl
 ·exact ⟨1, rfl, by decide, by decide⟩
 ·exact ⟨2, rfl, by decide, by decide⟩
 ·exact ⟨3, rfl, by decide, by decide⟩
 ·exact ⟨4, rfl, by decide, by decide⟩
 ·exact ⟨5, rfl, by decide, by decide⟩
 ·exact absurd h4 (by decide)
 ·exact ⟨5, rfl, by decide, by decide⟩
 ·exact ⟨8, rfl, by decide, by decide⟩
 ·exact absurd h4 (by decide)
 ·exact absurd h4 (by decide)
 ·exact ⟨10, rfl, by decide, by decide⟩
 ·exact ⟨11, rfl, by decide, by decide⟩
 ·exact ⟨6, rfl, by decide, by decide⟩
 ·exact ⟨12, rfl, by decide, by decide⟩
theorem z_dA {l : Ln} {a b : Nat} (hz : LnSz l) (h1 : 1 ≤ l.1) (h2 : l.1 ≤ 15) (h3 : l.1 ≠ 1) (h4 : z_ae l.1 = false) (ha : a ≤ 1000000000) (hb : b ≤ 1000000000) : z_ha (z_as l a b) := by
 obtain ⟨c, e, c1, c2⟩ := z_mT h1 h2 h3 h4
 exact ⟨⟨c, a, b, e, c1, c2, rfl, rfl, ha, hb⟩, hz.to, hz.name, hz.undo, hz.len, hz.args⟩
theorem z_eF {c a : Nat} (h1 : 1 ≤ c) (h2 : c ≤ 12) (ha : a ≤ 1000000000) : z_ha (z_ap c a) :=
 ⟨⟨c, a, 0, rfl, h1, h2, rfl, rfl, ha, by decide⟩, Nat.zero_le _, Nat.zero_le _, Nat.zero_le _, Nat.zero_le _, fun x hx => by simp [z_ap] at hx⟩
theorem z_f4 {k : Int} (h : z_am k = true) : k ≠ 1 ∧ z_ae k = false := by
 refine ⟨fun e => ?_, ?_⟩
 ·subst e; revert h; decide
 ·cases hc : z_ae k with
  | false => rfl
  | true => have := z_cb hc; rw [h] at this; cases this
theorem z_it {k : Int} (h : z_aE k = true) : z_am k = true := by unfold z_am; rw [h]; rfl
theorem z_mB (t : Bl) : ∀ (n : Nat), t.wf → (∀ l ∈ t.flat, LnSz l ∧ 1 ≤ l.1 ∧ l.1 ≤ 15) → n + 4 * t.flat.length ≤ 100000000 → ∀ s ∈ z_aM n t, z_ha s := by
 induction t with
 | nil => intro n _ _ _ s hs; simp [z_aM] at hs
 | plain l r ih =>
  intro n hw h hn s hs
  obtain ⟨w1, w2, w3, w4⟩ := hw
  obtain ⟨z, k1, k2⟩ := h l (by simp [Bl.flat])
  simp only [Bl.flat, List.length_cons] at hn
  simp only [z_aM, List.mem_cons] at hs
  rcases hs with rfl | hs
  ·exact z_dA (a := 0) (b := 0) z k1 k2 w3 w2 (by omega) (by omega)
  ·exact ih _ w4 (fun x hx => h x (by simp [Bl.flat, hx])) (by omega) s hs
 | one l p e r ihp ihr =>
  intro n hw h hn s hs
  obtain ⟨w1, w2, w3, w4, w5⟩ := hw
  obtain ⟨z, k1, k2⟩ := h l (by simp [Bl.flat])
  obtain ⟨k3, k4⟩ := z_f4 w1
  have sp := z_aT p w4
  have sr := z_aT r w5
  simp only [Bl.flat, List.length_cons, List.length_append] at hn
  have hp : ∀ x ∈ p.flat, LnSz x ∧ 1 ≤ x.1 ∧ x.1 ≤ 15 := fun x hx => h x (by simp [Bl.flat, hx])
  have hr : ∀ x ∈ r.flat, LnSz x ∧ 1 ≤ x.1 ∧ x.1 ≤ 15 := fun x hx => h x (by simp [Bl.flat, hx])
  simp only [z_aM] at hs
  split at hs
  ·simp only [List.mem_cons, List.mem_append] at hs
   rcases hs with rfl | hs | rfl | hs
   ·exact z_dA z k1 k2 k3 k4 (by omega) (by omega)
   ·exact ihp _ w4 hp (by omega) s hs
   ·exact z_eF (c := 7) (by decide) (by decide) (by omega)
   ·exact ihr _ w5 hr (by omega) s hs
  ·simp only [List.mem_cons, List.mem_append] at hs
   rcases hs with rfl | hs | hs
   ·exact z_dA z k1 k2 k3 k4 (by omega) (by omega)
   ·exact ihp _ w4 hp (by omega) s hs
   ·exact ihr _ w5 hr (by omega) s hs
 | two l p m q e r ihp ihq ihr =>
  intro n hw h hn s hs
  obtain ⟨w1, w2, w3, w4, w5⟩ := hw
  obtain ⟨z, k1, k2⟩ := h l (by simp [Bl.flat])
  have ho : z_am l.1 = true := by
   rcases w1 with ⟨w, _⟩ | ⟨w, _⟩
   ·exact z_it w
   ·rw [w]; decide
  obtain ⟨k3, k4⟩ := z_f4 ho
  have sp := z_aT p w3
  have sq := z_aT q w4
  have sr := z_aT r w5
  simp only [Bl.flat, List.length_cons, List.length_append] at hn
  have hp : ∀ x ∈ p.flat, LnSz x ∧ 1 ≤ x.1 ∧ x.1 ≤ 15 := fun x hx => h x (by simp [Bl.flat, hx])
  have hq : ∀ x ∈ q.flat, LnSz x ∧ 1 ≤ x.1 ∧ x.1 ≤ 15 := fun x hx => h x (by simp [Bl.flat, hx])
  have hr : ∀ x ∈ r.flat, LnSz x ∧ 1 ≤ x.1 ∧ x.1 ≤ 15 := fun x hx => h x (by simp [Bl.flat, hx])
  simp only [z_aM] at hs
  split at hs
  ·simp only [List.mem_cons, List.mem_append] at hs
   rcases hs with rfl | hs | rfl | hs | rfl | hs
   ·exact z_dA z k1 k2 k3 k4 (by omega) (by omega)
   ·exact ihp _ w3 hp (by omega) s hs
   ·exact z_eF (c := 9) (by decide) (by decide) (by omega)
   ·exact ihq _ w4 hq (by omega) s hs
   ·exact z_eF (c := 9) (by decide) (by decide) (by omega)
   ·exact ihr _ w5 hr (by omega) s hs
  ·simp only [List.mem_cons, List.mem_append] at hs
   rcases hs with rfl | hs | rfl | hs | hs
   ·exact z_dA z k1 k2 k3 k4 (by omega) (by omega)
   ·exact ihp _ w3 hp (by omega) s hs
   ·exact z_eF (c := 7) (by decide) (by decide) (by omega)
   ·exact ihq _ w4 hq (by omega) s hs
   ·exact ihr _ w5 hr (by omega) s hs
theorem z_lw {l : Ln} (h : backL l = true) : 1 ≤ l.1 ∧ l.1 ≤ 15 := by
 apply Classical.byContradiction
 intro hn
 have := z_dJ l.1 l.2 hn
 rw [backL, this] at h; cases h
theorem z_m1 {ls : List Ln} {ok : Bool} {ss : List Stp} (h : MkL ls ok ss) (hz : ∀ l ∈ ls, LnSz l) : ∀ s ∈ ss, z_ha s := by
 rcases h with ⟨_, _, rfl⟩ | ⟨_, hc, l0, t, e, hw, rfl⟩
 ·intro s hs; simp at hs
 ·rcases hc with ⟨_, h60, hst, _⟩ | ⟨hn, _⟩
  ·have hall := hst.2.1
   rw [e] at hz hall h60
   simp only [List.length_cons] at h60
   exact z_mB t 0 hw (fun l hl => ⟨hz l (by simp [hl]), z_lw (hall l (by simp [hl]))⟩) (by omega)
  ·exact absurd rfl hn
def z_ll (s : Stp) : ByteArray := z_cG s.code.toNat s.to s.name s.args s.undo s.a.toNat s.b.toNat
def z_jO (j : Nat) (s : Stp) : ByteArray := ((decW j ++ ⟨#[32]⟩) ++ z_ll s) ++ ⟨#[10]⟩
def z_bO (ss : List Stp) : Nat → ByteArray
 | 0 => ⟨#[]⟩
 | j + 1 => z_bO ss j ++ (match ss[j]? with | some s => z_jO j s | none => ⟨#[]⟩)
theorem z_fr {ss : List Stp} {j : Nat} (h : j < ss.length) : z_bO ss (j + 1) = z_bO ss j ++ z_jO j ss[j] := by
 rw [z_bO, List.getElem?_eq_getElem h]
end
section
open Go.RowKit
theorem z_gl {c a b : Nat} {tt nm undo : ByteArray} {args : List ByteArray} (ha : a ≤ 1000000000) (hb : b ≤ 1000000000) (h1 : tt.size ≤ 1048576) (h2 : nm.size ≤ 1048576) (h3 : undo.size ≤ 1048576) (h4 : ∀ s ∈ args, s.size ≤ 1048576) (hl : args.length ≤ 1048576) : (z_cG c tt nm args undo a b).size ≤ 1100000000000 := by
 have hw := z_cZ 1048576 (z_iP c tt nm args undo a b) (z_cT c) (fun s hs => by
  unfold z_iP at hs
  simp only [List.mem_append] at hs
  rcases hs with ((hs | hs) | hs) | hs
  ·exact z_hk (M := 1048576) (ws := [tt, nm]) (fun s hs => by simp at hs; rcases hs with rfl | rfl <;> assumption) s hs
  ·exact h4 s hs
  ·rw [z_dD] at hs
   split at hs
   ·simp at hs
   ·simp only [List.mem_cons, List.not_mem_nil, or_false] at hs
    rcases hs with rfl | rfl
    ·decide
    ·exact h3
  ·have sa := z_cd a ha
   have sb := z_cd b hb
   unfold toW at hs
   split at hs
   ·simp only [List.mem_cons, List.not_mem_nil, or_false] at hs
    rcases hs with rfl | rfl | rfl
    ·decide
    ·omega
    ·omega
   ·split at hs
    ·simp only [List.mem_cons, List.not_mem_nil, or_false] at hs
     rcases hs with rfl | rfl
     ·decide
     ·omega
    ·simp at hs)
 have hlen : (z_iP c tt nm args undo a b).length ≤ 1048590 := by
  have l1 : (z_ay [tt, nm]).length ≤ 2 := List.length_filter_le _ _
  have l2 : (z_cn undo).length ≤ 2 := by rw [z_dD]; split <;> simp
  have l3 : (toW c a b).length ≤ 3 := by unfold toW; split <;> first | simp | (split <;> simp)
  unfold z_iP
  simp only [List.length_append]
  omega
 have hcs := z_ga c
 have hm : (z_iP c tt nm args undo a b).length * (1048576 + 1) ≤ 1048590 * (1048576 + 1) := Nat.mul_le_mul_right _ hlen
 unfold z_cG
 omega
theorem z_gY {s : Stp} (h : z_ha s) : ∃ c a b : Nat, s.code = c ∧ c ≤ 12 ∧ 1 ≤ c ∧ s.a = a ∧ s.b = b ∧ a ≤ 1000000000 ∧ b ≤ 1000000000 ∧ z_ll s = z_cG c s.to s.name s.args s.undo a b := by
 obtain ⟨⟨c, a, b, e1, c1, c2, e2, e3, ha, hb⟩, _⟩ := h
 refine ⟨c, a, b, e1, c2, c1, e2, e3, ha, hb, ?_⟩
 unfold z_ll
 rw [e1, e2, e3, Int.toNat_natCast, Int.toNat_natCast, Int.toNat_natCast]
theorem z_d5 {s : Stp} (h : z_ha s) : (z_ll s).size ≤ 1100000000000 := by
 obtain ⟨c, a, b, _, _, _, _, _, ha, hb, e⟩ := z_gY h
 rw [e]
 exact z_gl ha hb h.2.1 h.2.2.1 h.2.2.2.1 h.2.2.2.2.2 h.2.2.2.2.1
theorem z_dt {ss : List Stp} (h : ∀ s ∈ ss, z_ha s) (hl : ss.length ≤ 1000000000) : ∀ j, (z_bO ss j).size ≤ j * 1100000000040
 | 0 => by rw [show (z_bO ss 0).size = 0 from rfl]; exact Nat.zero_le _
 | j + 1 => by
  have ih := z_dt h hl j
  rw [z_bO, ByteArray.size_append]
  cases hj : ss[j]? with
  | none => exact Nat.le_trans ih (Nat.mul_le_mul_right 1100000000040 (Nat.le_succ j))
  | some s =>
   obtain ⟨hjl, e⟩ := List.getElem?_eq_some_iff.1 hj
   have h1 := z_d5 (h s (by rw [← e]; exact List.getElem_mem hjl))
   have h2 := z_cd j (by omega)
   have h3 : (z_jO j s).size = (decW j).size + 1 + (z_ll s).size + 1 := by
    unfold z_jO
    rw [ByteArray.size_append, ByteArray.size_append, ByteArray.size_append]; rfl
   show _ + (z_jO j s).size ≤ _
   omega
theorem z_j2 (O d s : ByteArray) : (((O ++ d) ++ ⟨#[32]⟩) ++ s) ++ ⟨#[10]⟩ = O ++ (((d ++ ⟨#[32]⟩) ++ s) ++ ⟨#[10]⟩) := by
 apply ByteArray.ext
 apply Array.ext'
 simp
theorem z_gq (ao : Option Addr) (cap : Nat) (ls : List Ln) (w : World) (hcap : ls.length ≤ cap) (hl : ls.length ≤ 1048576) (hi : LinesAt w.heap.size w ao ls) (hz : ∀ l ∈ ls, LnSz l) :
  Calls Tryz.prog 18 #[.slice ao ls.length cap] w fun e w' => ∃ (ok : Bool) (ss : List Stp), e = .returned (.string (z_bO ss ss.length)) ∧ Below w.heap.size w w' ∧ MkL ls ok ss := by
 have HI : Hid (LinesAt w.heap.size w ao ls) := hi
 have HZ : Hid (∀ l ∈ ls, LnSz l) := hz
 clear hi hz
 go_enter Tryz.func18, Tryz.ntmps18
 go_wp2_with fail
 refine (z_gN ao cap ls w hcap hl HI.out HZ.out).mono ?_
 rintro e w1 hmk
 obtain ⟨v1, ok1, ps, base, rfl, hb1, hmk1, hbs1, ho1⟩ := z_hZ hmk
 obtain ⟨so, sc, rfl, hsc, hst⟩ := OwnSt.steps ho1
 have hlen := z_lp hmk1
 rw [List.length_map] at hlen
 have HOK : Hid (∀ s ∈ ps.map (·.1), z_ha s) := z_m1 hmk1 HZ.out
 have HMk : Hid (MkL ls ok1 (ps.map (·.1))) := hmk1
 have HB1 : Hid (Below w.heap.size w w1) := hb1
 obtain ⟨ss, hss⟩ : ∃ ss, ss = ps.map (·.1) := ⟨_, rfl⟩
 have hsl : ps.length = ss.length := by rw [hss, List.length_map]
 rw [← hss] at HOK HMk hst
 have HS : Hid (StepsAt w1.heap.size w1 so ss) := hst
 clear hmk hb1 hmk1 hbs1 ho1 hst hss
 obtain ⟨n, hn⟩ : ∃ n, n = ps.length := ⟨_, rfl⟩
 rw [← hn] at hsc hlen hsl ⊢
 have HSL : Hid (n = ss.length) := hsl
 clear hn hsl
 go_wp2_with fail
 go_loopw [5, 6] (fun y iv wr => ∃ (j : Nat) (O : ByteArray), j ≤ n ∧ iv = .int .i64 j ∧ y = .string O ∧ Hid (O = z_bO ss j) ∧ Hid (Below w1.heap.size w1 wr)) (fun _ iv _ => n - (intOf iv).toNat)
 case atStart => exact ⟨0, ⟨#[]⟩, Nat.zero_le _, rfl, rfl, rfl, Below.refl _ _⟩
 case round =>
  obtain ⟨j, O, hj, rfl, rfl, HO, HB⟩ := hrel
  by_cases hlt : j < n
  ·have hjs : j < ss.length := by rw [← HSL.out]; exact hlt
   obtain ⟨b, off, rfl, hBl, aoA, capA, hcA, q0, q1, q2, q3, q4, q5, q6, hA⟩ := HS.out j hjs
   have hok := HOK.out _ (List.getElem_mem hjs)
   have hos := z_dt HOK.out (by rw [← HSL.out]; omega) j
   rw [← HO.out] at hos
   have hsz := z_d5 hok
   obtain ⟨c, xa, xb, e1, hc12, _, e2, e3, hxa, hxb, hsh⟩ := z_gY hok
   have HN : Hid ((((O ++ decW j) ++ ⟨#[32]⟩) ++ z_cG c ss[j].to ss[j].name ss[j].args ss[j].undo xa xb) ++ ⟨#[10]⟩ = z_bO ss (j + 1)) := by
    rw [Hid, z_fr hjs, z_jO, hsh, z_j2, HO.out]
   rw [hsh] at hsz
   rw [e1] at q0
   rw [e2] at q5
   rw [e3] at q6
   obtain ⟨_, z1, z2, z3, z4, z5⟩ := hok
   obtain ⟨st, hst⟩ : ∃ st, st = ss[j] := ⟨_, rfl⟩
   rw [← hst] at q1 q2 q3 q4 hcA hA z1 z2 z3 z4 z5 HN hsz
   obtain ⟨sc0, tt, nm, args, undo, sa, sb⟩ := st
   simp only at q1 q2 q3 q4 hcA hA z1 z2 z3 z4 z5 HN hsz
   have HC : Hid (∀ w', Below w1.heap.size w1 w' → w'.cell? ⟨b, off + j * 7, none⟩ = some (.int .i64 c) ∧ w'.cell? ⟨b, off + j * 7 + 1, none⟩ = some (.string tt) ∧ w'.cell? ⟨b, off + j * 7 + 2, none⟩ = some (.string nm) ∧ w'.cell? ⟨b, off + j * 7 + 3, none⟩ = some (.slice aoA args.length capA) ∧ w'.cell? ⟨b, off + j * 7 + 4, none⟩ = some (.string undo) ∧ w'.cell? ⟨b, off + j * 7 + 5, none⟩ = some (.int .i64 xa) ∧ w'.cell? ⟨b, off + j * 7 + 6, none⟩ = some (.int .i64 xb)) := fun w' h =>
    ⟨(h.cell (p := ⟨b, _, none⟩) hBl).trans q0, (h.cell (p := ⟨b, _, none⟩) hBl).trans q1, (h.cell (p := ⟨b, _, none⟩) hBl).trans q2, (h.cell (p := ⟨b, _, none⟩) hBl).trans q3, (h.cell (p := ⟨b, _, none⟩) hBl).trans q4, (h.cell (p := ⟨b, _, none⟩) hBl).trans q5, (h.cell (p := ⟨b, _, none⟩) hBl).trans q6⟩
   have HAr : Hid (StrsAt 0 w1.heap.size w1 aoA args) := hA
   have hws := HB.out.size
   have hdj := z_cd j (by omega)
   obtain ⟨y0, y1, y2, y3, y4, y5, y6⟩ := HC.out wr HB.out
   obtain ⟨X, hX⟩ : ∃ X, X = z_cG c tt nm args undo xa xb := ⟨_, rfl⟩
   have HX : Hid (X = z_cG c tt nm args undo xa xb) := hX
   rw [← hX] at HN hsz
   have f1 : ¬ 9223372036854775807 < O.size + (decW j).size := by omega
   have f2 : ¬ 9223372036854775807 < O.size + (decW j).size + 1 := by omega
   have f3 : ¬ 9223372036854775807 < O.size + (decW j).size + 1 + X.size := by omega
   have f4 : ¬ 9223372036854775807 < O.size + (decW j).size + 1 + X.size + 1 := by omega
   have i1 : (0 : Int) ≤ (j : Int) := by omega
   have i2 : (j : Int) < (n : Int) := by omega
   clear q0 q1 q2 q3 q4 q5 q6 hA hst hX e1 e2 e3 hsh hos
   go_wp2_with fail
   go_region_held3 (fun wx => wx.cell? ⟨b, off + j * 7, none⟩ = some (.int .i64 c) ∧ wx.cell? ⟨b, off + j * 7 + 1, none⟩ = some (.string tt) ∧ wx.cell? ⟨b, off + j * 7 + 2, none⟩ = some (.string nm) ∧ wx.cell? ⟨b, off + j * 7 + 3, none⟩ = some (.slice aoA args.length capA) ∧ wx.cell? ⟨b, off + j * 7 + 4, none⟩ = some (.string undo) ∧ wx.cell? ⟨b, off + j * 7 + 5, none⟩ = some (.int .i64 xa) ∧ wx.cell? ⟨b, off + j * 7 + 6, none⟩ = some (.int .i64 xb))
    (first | (go_keep; done) | exact HC.out _ HB2.out | exact HC.out _ HB3.out)
    (first
     | (go_at_call 40; refine (z_dQ j (by omega) _).mono ?_; rintro e w2 ⟨rfl, hb2⟩; have HB2 : Hid (Below w1.heap.size w1 w2) := HB.out.drew.trans (hb2.mono hws); clear hb2)
     | (go_at_call 41; refine (z_k2 c xa xb tt nm undo args aoA capA _ hc12 hxa hxb z1 z2 z3 z5 z4 (HAr.out.later HB2.out)).mono ?_; rintro e w3 ⟨rfl, hb3⟩; rw [← HX.out]; have HB3 : Hid (Below w1.heap.size w1 w3) := HB2.out.trans (hb3.mono HB2.out.size); clear hb3))
   go_wp2
   go_roundw
   case rel => exact ⟨j + 1, _, by omega, by go_num, rfl, HN, HB3⟩
   case measure => simp [intOf]; omega
  ·have e : j = n := by omega
   subst e
   go_wp2
   go_ret
   exact ⟨ok1, ss, by rw [HO.out, HSL.out] <;> rfl, HB1.out.trans (HB.out.mono HB1.out.size), HMk.out⟩
end
section
open Go.RowKit
theorem z_e2 {w w' : World} {T e : TypeId} {B b : Nat} {bs : List Value} (h : Lib.IsBuilder T e B b bs w) (hb : Below w.heap.size w w') : Lib.IsBuilder T e B b bs w' := by
 rcases h with ⟨h1, v, h2, h3, h4⟩ | ⟨h1, v, h2, h3, h4⟩
 ·exact .inl ⟨h1, v, (hb.block _ (b_lt h2)).trans h2, z_ax h3 hb, h4⟩
 ·exact .inr ⟨h1, v, (hb.block _ (b_lt h2)).trans h2, z_ax h3 hb, h4⟩
theorem z_nY {w : World} {T e : TypeId} {B b : Nat} {bs : List Value} (h : Lib.IsBuilder T e B b bs w) : b < w.heap.size := by
 rcases h with ⟨_, v, h2, _⟩ | ⟨_, v, h2, _⟩ <;> exact b_lt h2
theorem z_cy (a b : ByteArray) : Lib.strCells (a ++ b) = Lib.strCells a ++ Lib.strCells b := by
 rw [Lib.strCells_eq, Lib.strCells_eq, Lib.strCells_eq, ← Lib.byteCells_append]
 congr 1
theorem z_jv (HShow : Hid (∀ (c a b : Nat) (tt nm undo : ByteArray) (args : List ByteArray) (ao : Option Addr) (cap : Nat) (w : World) (hc0 : 1 ≤ c) (hc : c ≤ 12) (ha : a ≤ 1000000000) (hb : b ≤ 1000000000) (h1 : tt.size ≤ 1048576) (h2 : nm.size ≤ 1048576) (h3 : undo.size ≤ 1048576) (h4 : ∀ s ∈ args, s.size ≤ 1048576) (hl : args.length ≤ 1048576) (hcap : args.length ≤ cap) (hi : StrsAt 0 w.heap.size w ao args) (he : Env w), Calls Tryz.prog 45 #[.agg #[.int .i64 c, .string tt, .string nm, .slice ao args.length cap, .string undo, .int .i64 a, .int .i64 b]] w fun e w' => e = .returned (.string (z_cG c tt nm args undo a b)) ∧ Below w.heap.size w w')) (ao : Option Addr) (cap : Nat) (ls : List Ln) (w : World) (hcap : ls.length ≤ cap) (hl : ls.length ≤ 1048576) (hi : LinesAt w.heap.size w ao ls) (hz : ∀ l ∈ ls, LnSz l) (he : Env w) :
  Calls Tryz.prog 19 #[.slice ao ls.length cap] w fun e w' => ∃ (ok : Bool) (ss : List Stp), e = .returned (.string (z_bO ss ss.length)) ∧ Below w.heap.size w w' ∧ MkL ls ok ss := by
 have HI : Hid (LinesAt w.heap.size w ao ls) := hi
 have HZ : Hid (∀ l ∈ ls, LnSz l) := hz
 have HE : Hid (Env w) := he
 clear hi hz he
 go_enter Tryz.func19, Tryz.ntmps19
 go_wp2_with fail
 refine (z_hL ao cap ls w hcap hl HI.out HZ.out HE.out).mono ?_
 rintro e w1 hmk
 obtain ⟨v1, ok1, ps, base, rfl, hb1, hmk1, hbs1, ho1⟩ := z_hZ hmk
 obtain ⟨so, sc, rfl, hsc, hst⟩ := OwnSt.steps ho1
 have hlen := z_lp hmk1
 rw [List.length_map] at hlen
 have HOK : Hid (∀ s ∈ ps.map (·.1), z_ha s) := z_m1 hmk1 HZ.out
 have HMk : Hid (MkL ls ok1 (ps.map (·.1))) := hmk1
 have HB1 : Hid (Below w.heap.size w w1) := hb1
 obtain ⟨ss, hss⟩ : ∃ ss, ss = ps.map (·.1) := ⟨_, rfl⟩
 have hsl : ps.length = ss.length := by rw [hss, List.length_map]
 rw [← hss] at HOK HMk hst
 have HS : Hid (StepsAt w1.heap.size w1 so ss) := hst
 clear hmk hb1 hmk1 hbs1 ho1 hst hss
 obtain ⟨n, hn⟩ : ∃ n, n = ps.length := ⟨_, rfl⟩
 rw [← hn] at hsc hlen hsl ⊢
 have HSL : Hid (n = ss.length) := hsl
 clear hn hsl
 go_wp2_with fail
 go_loopw [15] (fun iv wr => ∃ (j : Nat), j ≤ n ∧ iv = .int .i64 j ∧ Hid (Lib.IsBuilder 74 5 w1.heap.size w1.heap.size (Lib.strCells (z_bO ss j)) wr) ∧ Hid (Below w1.heap.size w1 wr)) (fun iv _ => n - (intOf iv).toNat)
 case atStart => exact ⟨0, Nat.zero_le _, rfl, Lib.fresh_isBuilder _ _ w1, (Below.refl _ _).alloc (Nat.le_refl _) _⟩
 case round =>
  obtain ⟨j, hj, rfl, HBd, HB⟩ := hrel
  obtain ⟨O, hO⟩ : ∃ O, O = z_bO ss j := ⟨_, rfl⟩
  have HO : Hid (O = z_bO ss j) := hO
  rw [← hO] at HBd
  clear hO
  by_cases hlt : j < n
  ·have hjs : j < ss.length := by rw [← HSL.out]; exact hlt
   obtain ⟨b, off, rfl, hBl, aoA, capA, hcA, q0, q1, q2, q3, q4, q5, q6, hA⟩ := HS.out j hjs
   have hok := HOK.out _ (List.getElem_mem hjs)
   have hos := z_dt HOK.out (by rw [← HSL.out]; omega) j
   rw [← HO.out] at hos
   have hsz := z_d5 hok
   obtain ⟨c, xa, xb, e1, hc12, hc1, e2, e3, hxa, hxb, hsh⟩ := z_gY hok
   have HN : Hid ((((O ++ decW j) ++ ⟨#[32]⟩) ++ z_cG c ss[j].to ss[j].name ss[j].args ss[j].undo xa xb) ++ ⟨#[10]⟩ = z_bO ss (j + 1)) := by
    rw [Hid, z_fr hjs, z_jO, hsh, z_j2, HO.out]
   rw [hsh] at hsz
   rw [e1] at q0
   rw [e2] at q5
   rw [e3] at q6
   obtain ⟨_, z1, z2, z3, z4, z5⟩ := hok
   obtain ⟨st, hst⟩ : ∃ st, st = ss[j] := ⟨_, rfl⟩
   rw [← hst] at q1 q2 q3 q4 hcA hA z1 z2 z3 z4 z5 HN hsz
   obtain ⟨sc0, tt, nm, args, undo, sa, sb⟩ := st
   simp only at q1 q2 q3 q4 hcA hA z1 z2 z3 z4 z5 HN hsz
   have HC : Hid (∀ w', Below w1.heap.size w1 w' → w'.cell? ⟨b, off + j * 7, none⟩ = some (.int .i64 c) ∧ w'.cell? ⟨b, off + j * 7 + 1, none⟩ = some (.string tt) ∧ w'.cell? ⟨b, off + j * 7 + 2, none⟩ = some (.string nm) ∧ w'.cell? ⟨b, off + j * 7 + 3, none⟩ = some (.slice aoA args.length capA) ∧ w'.cell? ⟨b, off + j * 7 + 4, none⟩ = some (.string undo) ∧ w'.cell? ⟨b, off + j * 7 + 5, none⟩ = some (.int .i64 xa) ∧ w'.cell? ⟨b, off + j * 7 + 6, none⟩ = some (.int .i64 xb)) := fun w' h =>
    ⟨(h.cell (p := ⟨b, _, none⟩) hBl).trans q0, (h.cell (p := ⟨b, _, none⟩) hBl).trans q1, (h.cell (p := ⟨b, _, none⟩) hBl).trans q2, (h.cell (p := ⟨b, _, none⟩) hBl).trans q3, (h.cell (p := ⟨b, _, none⟩) hBl).trans q4, (h.cell (p := ⟨b, _, none⟩) hBl).trans q5, (h.cell (p := ⟨b, _, none⟩) hBl).trans q6⟩
   have HAr : Hid (StrsAt 0 w1.heap.size w1 aoA args) := hA
   have hws := HB.out.size
   have hdj := z_cd j (by omega)
   obtain ⟨y0, y1, y2, y3, y4, y5, y6⟩ := HC.out wr HB.out
   have HBw : Hid (Below w.heap.size w wr) := HB1.out.trans (HB.out.mono HB1.out.size)
   have HEw : Hid (Env wr) := HE.out.later HBw.out
   have i1 : (0 : Int) ≤ (j : Int) := by omega
   have i2 : (j : Int) < (n : Int) := by omega
   obtain ⟨X, hX⟩ : ∃ X, X = z_cG c tt nm args undo xa xb := ⟨_, rfl⟩
   have HX : Hid (X = z_cG c tt nm args undo xa xb) := hX
   rw [← hX] at HN hsz
   clear hX
   have hgl := z_nY HBd.out
   have HX1 : Hid ((wr.alloc (.cells #[.int .i64 c, .string tt, .string nm, .slice aoA args.length capA, .string undo, .int .i64 xa, .int .i64 xb] 52 (0, 0))).heap[wr.heap.size]? = some (.cells #[.int .i64 c, .string tt, .string nm, .slice aoA args.length capA, .string undo, .int .i64 xa, .int .i64 xb] 52 (0, 0))) := heap_alloc_new wr _
   have HBa : Hid (Below w1.heap.size w1 (wr.alloc (.cells #[.int .i64 c, .string tt, .string nm, .slice aoA args.length capA, .string undo, .int .i64 xa, .int .i64 xb] 52 (0, 0)))) := HB.out.alloc HB.out.size _
   go_wp2_with fail
   refine (z_eI (j : Int) _ (by omega) (by omega) (HEw.out.later ((Below.refl _ _).alloc (Nat.le_refl _) _))).mono ?_
   rintro e w2 ⟨rfl, hb2⟩
   rw [z_e8]
   have HX2 : Hid (w2.heap[wr.heap.size]? = some (.cells #[.int .i64 c, .string tt, .string nm, .slice aoA args.length capA, .string undo, .int .i64 xa, .int .i64 xb] 52 (0, 0))) := (hb2.block _ (by simp)).trans HX1.out
   have HB2 : Hid (Below w1.heap.size w1 w2) := HBa.out.trans (hb2.mono HBa.out.size)
   have HD2 : Hid (Lib.IsBuilder 74 5 w1.heap.size w1.heap.size (Lib.strCells O) w2) := z_e2 (z_e2 HBd.out ((Below.refl _ _).alloc (Nat.le_refl _) _)) hb2
   clear hb2 HBd HB y0 y1 y2 y3 y4 y5 y6
   go_wp2_with fail
   refine (z_c7 _ _ (Lib.strCells O) (decW j) w2 HD2.out (by rw [Lib.strCells_length]; omega) HB2.out.size).mono ?_
   rintro e w3 ⟨rfl, hd3, hb3, hk3⟩
   have HX3 : Hid (w3.heap[wr.heap.size]? = some (.cells #[.int .i64 c, .string tt, .string nm, .slice aoA args.length capA, .string undo, .int .i64 xa, .int .i64 xb] 52 (0, 0))) := hk3 wr.heap.size _ HX2.out (by simp; omega) (fun c fz e => by simp at e)
   have HB3 : Hid (Below w1.heap.size w1 w3) := HB2.out.trans hb3
   rw [← z_cy] at hd3
   have HD3 : Hid (Lib.IsBuilder 74 5 w1.heap.size w1.heap.size (Lib.strCells (O ++ decW j)) w3) := hd3
   clear hd3 hb3 hk3
   go_wp2_with fail
   refine (z_dO _ _ (Lib.strCells (O ++ decW j)) 32 w3 HD3.out (by rw [Lib.strCells_length, ByteArray.size_append]; omega) HB3.out.size).mono ?_
   rintro e w4 ⟨rfl, hd4, hb4, hk4⟩
   have HX4 : Hid (w4.heap[wr.heap.size]? = some (.cells #[.int .i64 c, .string tt, .string nm, .slice aoA args.length capA, .string undo, .int .i64 xa, .int .i64 xb] 52 (0, 0))) := hk4 wr.heap.size _ HX3.out (by simp; omega) (fun c fz e => by simp at e)
   have HB4 : Hid (Below w1.heap.size w1 w4) := HB3.out.trans hb4
   have HD4 : Hid (Lib.IsBuilder 74 5 w1.heap.size w1.heap.size (Lib.strCells ((O ++ decW j) ++ ⟨#[32]⟩)) w4) := by rw [Hid, z_cy]; exact hd4
   clear hd4 hb4 hk4
   have q0 : w4.cell? ⟨wr.heap.size, 0, none⟩ = some (.int .i64 c) := by rw [Lib.cell_of_heap HX4.out]; rfl
   have q1 : w4.cell? ⟨wr.heap.size, 1, none⟩ = some (.string tt) := by rw [Lib.cell_of_heap HX4.out]; rfl
   have q2 : w4.cell? ⟨wr.heap.size, 2, none⟩ = some (.string nm) := by rw [Lib.cell_of_heap HX4.out]; rfl
   have q3 : w4.cell? ⟨wr.heap.size, 3, none⟩ = some (.slice aoA args.length capA) := by rw [Lib.cell_of_heap HX4.out]; rfl
   have q4 : w4.cell? ⟨wr.heap.size, 4, none⟩ = some (.string undo) := by rw [Lib.cell_of_heap HX4.out]; rfl
   have q5 : w4.cell? ⟨wr.heap.size, 5, none⟩ = some (.int .i64 xa) := by rw [Lib.cell_of_heap HX4.out]; rfl
   have q6 : w4.cell? ⟨wr.heap.size, 6, none⟩ = some (.int .i64 xb) := by rw [Lib.cell_of_heap HX4.out]; rfl
   go_wp2_with fail
   refine (HShow.out c xa xb tt nm undo args aoA capA w4 hc1 hc12 hxa hxb z1 z2 z3 z5 z4 hcA (HAr.out.later HB4.out) (HE.out.later (HB1.out.trans (HB4.out.mono HB1.out.size)))).mono ?_
   rintro e w5 ⟨rfl, hb5⟩
   rw [← HX.out]
   clear q0 q1 q2 q3 q4 q5 q6
   have HB5 : Hid (Below w1.heap.size w1 w5) := HB4.out.trans (hb5.mono HB4.out.size)
   have HD5 : Hid (Lib.IsBuilder 74 5 w1.heap.size w1.heap.size (Lib.strCells ((O ++ decW j) ++ ⟨#[32]⟩)) w5) := z_e2 HD4.out hb5
   clear hb5
   go_wp2_with fail
   refine (z_c7 _ _ (Lib.strCells ((O ++ decW j) ++ ⟨#[32]⟩)) X w5 HD5.out (by rw [Lib.strCells_length, ByteArray.size_append, ByteArray.size_append, show (⟨#[32]⟩ : ByteArray).size = 1 from rfl]; omega) HB5.out.size).mono ?_
   rintro e w6 ⟨rfl, hd6, hb6, _⟩
   have HB6 : Hid (Below w1.heap.size w1 w6) := HB5.out.trans hb6
   rw [← z_cy] at hd6
   have HD6 : Hid (Lib.IsBuilder 74 5 w1.heap.size w1.heap.size (Lib.strCells (((O ++ decW j) ++ ⟨#[32]⟩) ++ X)) w6) := hd6
   clear hd6 hb6
   go_wp2_with fail
   refine (z_dO _ _ (Lib.strCells (((O ++ decW j) ++ ⟨#[32]⟩) ++ X)) 10 w6 HD6.out (by rw [Lib.strCells_length, ByteArray.size_append, ByteArray.size_append, ByteArray.size_append, show (⟨#[32]⟩ : ByteArray).size = 1 from rfl]; omega) HB6.out.size).mono ?_
   rintro e w7 ⟨rfl, hd7, hb7, _⟩
   have HB7 : Hid (Below w1.heap.size w1 w7) := HB6.out.trans hb7
   have HD7 : Hid (Lib.IsBuilder 74 5 w1.heap.size w1.heap.size (Lib.strCells (z_bO ss (j + 1))) w7) := by rw [Hid, ← HN.out, z_cy]; exact hd7
   clear hd7 hb7
   go_wp2
   go_roundw
   case rel => exact ⟨j + 1, by omega, by go_num, HD7, HB7⟩
   case measure => simp [intOf]; omega
  ·have e : j = n := by omega
   subst e
   go_wp2_with fail
   refine (Tryz.Builder_String_any w1.heap.size w1.heap.size O.data.toList wr HBd.out HB.out.size).mono ?_
   rintro e w2 ⟨rfl, hb2⟩
   have HB2 : Hid (Below w.heap.size w w2) := HB1.out.trans ((HB.out.trans hb2).mono HB1.out.size)
   clear hb2
   go_wp2
   go_ret
   have hv : z_bO ss ss.length = O := by rw [← HSL.out, ← HO.out]
   refine ⟨ok1, ss, ?_, HB2.out, HMk.out⟩
   rw [hv]
   rfl
end
end Go.Proofs.YtlbjjbolbopfmaaGreatDoor
