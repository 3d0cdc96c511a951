import Derived.Test.YtlbjjbolbopfmaaGreatDoorI30
import Derived.Test.YtlbjjbolbopfmaaGreatDoorI14
import Derived.Test.YtlbjjbolbopfmaaGreatDoorI09
import Derived.Test.YtlbjjbolbopfmaaGreatDoorI15
import Derived.Test.YtlbjjbolbopfmaaGreatDoorI18
namespace Go.Proofs.YtlbjjbolbopfmaaGreatDoor
set_option maxHeartbeats 8000000
set_option maxRecDepth 1000000
set_option linter.unusedVariables false
section
open Go.RowKit
def z_bZ : Nat → Bl → List Stp
 | _, .nil => []
 | _, .plain l _ => [z_as l 0 0]
 | n, .one l p _ _ =>
  if l.1 = 8 then z_as l (n + 1 : Nat) (n + 2 + z_aA p : Nat) :: (z_aM (n + 1) p ++ [z_ap 7 n])
  else z_as l (n + 1 : Nat) (n + 1 + z_aA p : Nat) :: z_aM (n + 1) p
 | n, .two l p _ q _ _ =>
  if l.1 = 9 then z_as l (n + 1 : Nat) (n + 2 + z_aA p : Nat) :: (z_aM (n + 1) p ++ z_ap 9 (n + 3 + z_aA p + z_aA q : Nat) :: (z_aM (n + 2 + z_aA p) q ++ [z_ap 9 (n + 3 + z_aA p + z_aA q : Nat)]))
  else z_as l (n + 1 : Nat) (n + 2 + z_aA p : Nat) :: (z_aM (n + 1) p ++ z_ap 7 (n + 2 + z_aA p + z_aA q : Nat) :: z_aM (n + 2 + z_aA p) q)
theorem z_iD (n : Nat) (t : Bl) (h : z_aS t = true) : z_aM n t = z_bZ n t ++ z_aM (n + (z_bZ n t).length) (z_aN t) := by
 cases t with
 | nil => cases h
 | plain l r => simp [z_aM, z_bZ, z_aN]
 | one l p e r =>
  simp only [z_aM, z_bZ, z_aN]
  split
  ·simp only [List.length_cons, List.length_append, z_at, List.length_nil, List.cons_append, List.append_assoc, List.nil_append]
   rw [show n + (z_aA p + (0 + 1) + 1) = n + 2 + z_aA p by omega]
  ·simp only [List.length_cons, z_at, List.cons_append]
   rw [show n + (z_aA p + 1) = n + 1 + z_aA p by omega]
 | two l p m q e r =>
  simp only [z_aM, z_bZ, z_aN]
  split
  ·simp only [List.length_cons, List.length_append, z_at, List.length_nil, List.cons_append, List.append_assoc, List.nil_append]
   rw [show n + (z_aA p + (z_aA q + (0 + 1) + 1) + 1) = n + 3 + z_aA p + z_aA q by omega]
  ·simp only [List.length_cons, List.length_append, z_at, List.cons_append, List.append_assoc]
   rw [show n + (z_aA p + (z_aA q + 1) + 1) = n + 2 + z_aA p + z_aA q by omega]
theorem z_iH (n : Nat) (t : Bl) (hw : t.wf) : (z_bZ n t).length ≤ z_ai t := by
 cases t with
 | nil => exact Nat.zero_le _
 | plain l r => simp [z_bZ, z_ai]
 | one l p e r =>
  have := z_aV p hw.2.2.2.1
  simp only [z_bZ, z_ai]
  split <;> simp [z_at] <;> omega
 | two l p m q e r =>
  have h1 := z_aV p hw.2.2.1
  have h2 := z_aV q hw.2.2.2.1
  simp only [z_bZ, z_ai]
  split <;> simp [z_at] <;> omega
def z_nq (n q base : Nat) (lo : Option Addr) (cap : Nat) (ls : List Ln) : Prop :=
 ∀ (p : Bl) (rest : List Ln) (at_ : Nat), p.flat.length ≤ n → p.wf → ls.drop at_ = p.flat ++ rest → z_jj rest →
  BlkOK q base lo cap ls 34 at_ (at_ + p.flat.length) (500 - p.flat.length) (fun k => z_aM k p)
theorem BlkOK.congr {q base : Nat} {lo : Option Addr} {cap : Nat} {ls : List Ln} {F at_ at2 at3 N : Nat} {f g : Nat → List Stp} (h : BlkOK q base lo cap ls F at_ at2 N f) (e : at2 = at3) (hfg : ∀ n, f n = g n) : BlkOK q base lo cap ls F at_ at3 N g := by
 subst e
 intro w v ps hs hN
 rw [← hfg]
 exact h w v ps hs hN
theorem z_i3 (n q base : Nat) (lo : Option Addr) (cap : Nat) (ls : List Ln) (hl : ls.length ≤ 60) (hz : ∀ l ∈ ls, LnSz l) (IH : z_nq n q base lo cap ls)
  (t : Bl) (rest : List Ln) (at_ : Nat) (ht : t.flat.length ≤ n + 1) (hn : z_aS t = true) (hw : t.wf) (hd : ls.drop at_ = t.flat ++ rest) :
  BlkOK q base lo cap ls 75 at_ (at_ + z_ai t) (500 - z_ai t) (fun k => z_bZ k t) := by
 have hfl : at_ + t.flat.length ≤ ls.length := by
  have h := congrArg List.length hd
  obtain ⟨hx, _⟩ := z_b2 hd hn
  simp at h; omega
 cases t with
 | nil => cases hn
 | plain l r =>
  obtain ⟨h1, h2, _⟩ := z_a1 (a := l) (r := r.flat ++ rest) hd
  have h := z_g7 q base lo cap ls at_ hl h1 (by rw [h2]; exact hw.1) (hz _ (List.getElem_mem h1))
  rw [h2] at h
  intro w v ps hs hN
  exact h w v ps hs (by omega)
 | one l p e r =>
  have hd1 : ls.drop at_ = l :: (p.flat ++ (e :: (r.flat ++ rest))) := by rw [hd]; simp [Bl.flat]
  obtain ⟨h1, h2, h3⟩ := z_a1 hd1
  have h4 := z_bB h3
  obtain ⟨h5, h6, _⟩ := z_a1 h4
  simp only [Bl.flat, List.length_cons, List.length_append] at ht hfl
  have hB := IH p _ (at_ + 1) (by omega) hw.2.2.2.1 h3 (.inr ⟨e, _, rfl, by rw [hw.2.2.1]; rfl⟩)
  have hI := z_hH q base lo cap ls at_ _ _ _ (by omega) hB
  have hsz := z_aV p hw.2.2.2.1
  have hm : ∀ n, (z_aM n p).length ≤ p.flat.length := fun n => by rw [z_at]; exact hsz
  have hz1 := hz _ (List.getElem_mem h1)
  cases hch : z_aE l.1 with
  | true =>
   have h8 : l.1 ≠ 8 := fun h => by rw [h] at hch; cases hch
   have hC := z_gR q base lo cap ls (at_ + 1 + p.flat.length) hl h5 (by rw [h6, hw.2.2.1]; rfl)
   have hL := z_dn q base lo cap ls at_ _ _ _ 0 _ hl h1 (by omega) (by rw [h2]; exact hch) hz1 (500 - z_ai (.one l p e r)) _ 1000 p.flat.length (by omega) (by simp only [z_ai]; omega) (by omega) (by omega) hm hI hC
   rw [h2] at hL
   refine hL.congr (by simp only [z_ai]; omega) fun k => ?_
   simp only [z_bZ, if_neg h8, z_at, Nat.add_zero, List.append_nil]
  | false =>
   have h8 : l.1 = 8 := by
    have ho := hw.1
    rw [z_bX] at ho
    have h9 := hw.2.1
    rcases ho with h | h | h | h
    ·rw [h] at hch; cases hch
    ·rw [h] at hch; cases hch
    ·exact h
    ·exact absurd h h9
   have hC := z_nG q base lo cap ls (at_ + 1 + p.flat.length)
   have hL := z_it q base lo cap ls at_ _ _ _ 1 _ hl h1 (by omega) (by rw [h2]; exact h8) hz1 (500 - z_ai (.one l p e r)) _ 1000 p.flat.length (by omega) (by simp only [z_ai]; omega) (by omega) (by omega) hm hI hC
   rw [h2] at hL
   refine hL.congr (by simp only [z_ai]; omega) fun k => ?_
   simp only [z_bZ, if_pos h8, z_at]
   rw [show k + 1 + z_aA p + 1 = k + 2 + z_aA p by omega]
 | two l p m qq e r =>
  have hd1 : ls.drop at_ = l :: (p.flat ++ (m :: (qq.flat ++ (e :: (r.flat ++ rest))))) := by rw [hd]; simp [Bl.flat]
  obtain ⟨h1, h2, h3⟩ := z_a1 hd1
  have h4 := z_bB h3
  obtain ⟨h5, h6, h7⟩ := z_a1 h4
  have h8 := z_bB h7
  obtain ⟨h9, h10, _⟩ := z_a1 h8
  simp only [Bl.flat, List.length_cons, List.length_append] at ht hfl
  have hmc : z_ae m.1 = true := by rcases hw.1 with ⟨_, h⟩ | ⟨_, h⟩ <;> rw [h] <;> rfl
  have hec : z_ae e.1 = true := by rw [hw.2.1]; rfl
  have hB1 := IH p _ (at_ + 1) (by omega) hw.2.2.1 h3 (.inr ⟨m, _, rfl, hmc⟩)
  have hI1 := z_hH q base lo cap ls at_ _ _ _ (by omega) hB1
  have hB2 := IH qq _ (at_ + 1 + p.flat.length + 1) (by omega) hw.2.2.2.1 h7 (.inr ⟨e, _, rfl, hec⟩)
  have hI2 := z_hH q base lo cap ls (at_ + 1 + p.flat.length) _ _ _ (by omega) hB2
  have hs1 := z_aV p hw.2.2.1
  have hs2 := z_aV qq hw.2.2.2.1
  have hm1 : ∀ n, (z_aM n p).length ≤ p.flat.length := fun n => by rw [z_at]; exact hs1
  have hm2 : ∀ n, (z_aM n qq).length ≤ 1000 := fun n => by rw [z_at]; omega
  have hz1 := hz _ (List.getElem_mem h1)
  rcases hw.1 with ⟨hch, hm7⟩ | ⟨hl9, hm10⟩
  ·have hn9 : l.1 ≠ 9 := fun h => by rw [h] at hch; cases hch
   have hC := z_hB q base lo cap ls (at_ + 1 + p.flat.length) _ _ hl h5 (by rw [h6]; exact hm7) (500 - z_ai (.two l p m qq e r) + p.flat.length) _ (by omega) (by simp only [z_ai]; omega) hm2 hI2
   have hL := z_dn q base lo cap ls at_ _ _ _ 1 _ hl h1 (by omega) (by rw [h2]; exact hch) hz1 (500 - z_ai (.two l p m qq e r)) _ _ p.flat.length (by omega) (by simp only [z_ai]; omega) (by omega) (Nat.le_refl _) hm1 hI1 hC
   rw [h2] at hL
   refine hL.congr (by simp only [z_ai]; omega) fun k => ?_
   simp only [z_bZ, if_neg hn9, z_at]
   rw [show k + 1 + z_aA p + 1 = k + 2 + z_aA p by omega]
  ·have hC := z_nB q base lo cap ls (at_ + 1 + p.flat.length) _ _ (500 - z_ai (.two l p m qq e r) + p.flat.length) _ (by omega) (by simp only [z_ai]; omega) hm2 hI2
   have hL := z_i6 q base lo cap ls at_ _ _ _ 1 _ hl h1 (by omega) (by rw [h2]; exact hl9) hz1 (500 - z_ai (.two l p m qq e r)) _ _ p.flat.length (by omega) (by simp only [z_ai]; omega) (by omega) (Nat.le_refl _) hm1 hI1 hC
   rw [h2] at hL
   refine hL.congr (by simp only [z_ai]; omega) fun k => ?_
   simp only [z_bZ, if_pos hl9, z_at]
   rw [show k + 1 + z_aA p + 1 = k + 2 + z_aA p by omega, show k + 1 + z_aA p + 2 + z_aA qq = k + 3 + z_aA p + z_aA qq by omega]
end
section
open Go.RowKit
def LnIH (m q base : Nat) (lo : Option Addr) (cap : Nat) (ls : List Ln) : Prop :=
 ∀ (t : Bl) (rest : List Ln) (at_ : Nat), t.flat.length ≤ m → z_aS t = true → t.wf → ls.drop at_ = t.flat ++ rest →
  BlkOK q base lo cap ls 75 at_ (at_ + z_ai t) (500 - z_ai t) (fun k => z_bZ k t)
def mkAt (q : Nat) (w : World) : Nat := match w.cell? ⟨q, 2, none⟩ with
 | some v => (intOf v).toNat
 | none => 0
theorem MkSt.mkAt {q base : Nat} {lo : Option Addr} {cap : Nat} {ls : List Ln} {w : World} {at_ : Nat} {v : Value} {ps : List (Stp × Value)} (h : MkSt q base lo cap ls w at_ v ps) : Go.Proofs.YtlbjjbolbopfmaaGreatDoor.mkAt q w = at_ := by
 unfold Go.Proofs.YtlbjjbolbopfmaaGreatDoor.mkAt
 rw [h.c2]; simp [intOf]
theorem MkSt.kind {q base : Nat} {b off : Nat} {cap : Nat} {ls : List Ln} {w : World} {at_ : Nat} {v : Value} {ps : List (Stp × Value)} (h : MkSt q base (some ⟨b, off, none⟩) cap ls w at_ v ps) (hl : at_ < ls.length) : w.cell? ⟨b, off + at_ * 5, none⟩ = some (.int .i64 ls[at_].1) ∧ b < w.heap.size := by
 obtain ⟨b', off', e, hB, aoA, capA, hcA, q0, _⟩ := h.linesW at_ hl
 cases e
 exact ⟨q0, hB⟩
theorem z_jQ (m q base : Nat) (lo : Option Addr) (cap : Nat) (ls : List Ln) (hl : ls.length ≤ 60) (hl0 : 0 < ls.length) (HL : LnIH m q base lo cap ls) : z_nq m q base lo cap ls := by
 intro t rest at_ ht hw hd hend w v ps hs hN
 have HLI : Hid (LnIH m q base lo cap ls) := HL
 clear HL
 have hfl : at_ + t.flat.length ≤ ls.length ∨ t.flat.length = 0 := by
  have h := congrArg List.length hd
  simp at h; omega
 obtain ⟨b, off, rfl, _⟩ := hs.linesW 0 hl0
 have HS : Hid (MkSt q base (some ⟨b, off, none⟩) cap ls w at_ v ps) := hs
 have hN2 : ps.length + t.flat.length ≤ 500 := by omega
 clear hs hN
 go_enter Tryz.func34, Tryz.ntmps34
 go_wp2_with fail
 go_loopw [] (fun wr => ∃ (t' : Bl) (at' : Nat) (qs : List (Stp × Value)) (v' : Value), Hid (MkSt q base (some ⟨b, off, none⟩) cap ls wr at' v' (ps ++ qs)) ∧ Hid (Wk q v.ownBlock w wr ∧ RowTo w v v') ∧ Hid (ls.drop at' = t'.flat ++ rest) ∧ Hid t'.wf ∧ t'.flat.length ≤ m ∧ at' + t'.flat.length = at_ + t.flat.length ∧ Hid (z_aM ps.length t = qs.map (·.1) ++ z_aM (ps.length + qs.length) t') ∧ ps.length + qs.length + t'.flat.length ≤ 500) (fun wr => ls.length + 1 - mkAt q wr)
 case atStart => exact ⟨t, at_, [], v, by rw [List.append_nil]; exact HS.out, ⟨Wk.refl, RowTo.refl⟩, hd, hw, ht, rfl, rfl, by simpa using hN2⟩
 case round =>
  obtain ⟨t', at', qs, v', HS1, HK1, HD1, HW1, htm, hsum, HC1, hlen⟩ := hrel
  have c1 := HS1.out.c1
  have c2 := HS1.out.c2
  have hqlt1 := HS1.out.lt
  cases hnode : z_aS t' with
  | false =>
   have ht' : t' = .nil := by cases t' <;> first | rfl | cases hnode
   subst ht'
   have hD : ls.drop at' = rest := by have := HD1.out; simpa [Bl.flat] using this
   have HR : Hid (qs.map (·.1) = z_aM ps.length t) := by have := HC1.out; simpa [z_aM, Hid] using this.symm
   have hat' : Hid (at' = at_ + t.flat.length) := by show _ = _; simpa [Bl.flat] using hsum
   rcases hend with rfl | ⟨c, r, rfl, hcl⟩
   ·have hge : ls.length ≤ at' := by
     rcases Nat.lt_or_ge at' ls.length with h | h
     ·have := congrArg List.length hD; simp at this; omega
     ·exact h
    have hge2 : ¬ (at' : Int) < ls.length := by omega
    have hge3 : decide (at' < ls.length) = false := decide_eq_false (by omega)
    have hge4 : decide ((at' : Int) < ls.length) = false := decide_eq_false (by omega)
    go_wp2_with fail
    go_quiet (fail)
    go_wp2_with fail
    go_end0
    refine ⟨rfl, v', qs, HR.out, ?_, HK1.out.1.trans (Wk.of_below (row := v'.ownBlock) (z_aa (Below.refl _ _) nq)) HK1.out.2.or, HK1.out.2⟩
    rw [← hat'.out]
    exact HS1.out.below (z_aa (Below.refl _ _) nq)
   ·obtain ⟨h1, h2, _⟩ := z_a1 hD
    obtain ⟨ck, hbq⟩ := HS1.out.kind h1
    rw [h2] at ck
    have h3 : (at' : Int) < ls.length := by omega
    go_wp2_with fail
    go_quiet ((go_at_call 74; exact Calls.quiet_of_same (z_bp _ _)))
    go_wp2_with fail
    go_end0
    refine ⟨rfl, v', qs, HR.out, ?_, HK1.out.1.trans (Wk.of_below (row := v'.ownBlock) (z_aa (Below.refl _ _) nq)) HK1.out.2.or, HK1.out.2⟩
    rw [← hat'.out]
    exact HS1.out.below (z_aa (Below.refl _ _) nq)
  | true =>
   obtain ⟨h1, h2⟩ := z_b2 HD1.out hnode
   obtain ⟨ck, hbq⟩ := HS1.out.kind h1
   rw [h2] at ck
   have hnc := z_cE hnode HW1.out
   have h3 : (at' : Int) < ls.length := by omega
   go_wp2_with fail
   go_quiet ((go_at_call 74; exact Calls.quiet_of_same (z_bp _ _)))
   go_wp2_with fail
   have hlm := z_b9 t'
   refine (HLI.out t' rest at' htm hnode HW1.out HD1.out _ v' (ps ++ qs) (HS1.out.below (z_aa (Below.refl _ _) nq)) (by simp; omega)).mono ?_
   rintro e W2 ⟨rfl, v2, rs, hrs, h2', hk2, hr2⟩
   have hnl := z_iH (ps.length + qs.length) t' HW1.out
   rw [List.length_append] at hrs
   have hrs' : rs.map (·.1) = z_bZ (ps.length + qs.length) t' := hrs
   have h6 : rs.length = (z_bZ (ps.length + qs.length) t').length := by rw [← hrs']; simp
   have hrl : rs.length ≤ z_ai t' := by omega
   have HK2 : Hid (Wk q v.ownBlock w W2 ∧ RowTo w v v2) := ⟨(HK1.out.1.trans (Wk.of_below (row := v'.ownBlock) (z_aa (Below.refl _ _) nq)) HK1.out.2.or).trans hk2 HK1.out.2.or, HK1.out.2.trans hr2 (by have := HK1.out.1.size; simpa [World.drewN] using this)⟩
   rw [List.append_assoc] at h2'
   have HS2 : Hid (MkSt q base (some ⟨b, off, none⟩) cap ls W2 (at' + z_ai t') v2 (ps ++ (qs ++ rs))) := h2'
   have HC2 : Hid (z_aM ps.length t = (qs ++ rs).map (·.1) ++ z_aM (ps.length + (qs ++ rs).length) (z_aN t')) := by
    show _ = _
    have h5 := z_iD (ps.length + qs.length) t' hnode
    rw [HC1.out, h5, ← hrs', List.map_append, List.append_assoc, List.length_append, Nat.add_assoc, List.length_map]
   have HD2 : Hid (ls.drop (at' + z_ai t') = (z_aN t').flat ++ rest) := z_cD HD1.out
   have HW2 : Hid (z_aN t').wf := z_eg HW1.out
   have hpos : 1 ≤ z_ai t' := by cases t' <;> simp [z_ai, z_aS] at hnode ⊢
   have hm1 : mkAt q W2 = at' + z_ai t' := HS2.out.mkAt
   have hm0 : mkAt q wr = at' := HS1.out.mkAt
   have hqr : (qs ++ rs).length = qs.length + rs.length := by simp
   clear hk2 h2' hr2 hrs hrs' h6
   go_wp2
   go_roundw
   case rel => exact ⟨z_aN t', at' + z_ai t', qs ++ rs, v2, HS2, HK2, HD2, HW2, by omega, by omega, HC2, by omega⟩
   case measure => rw [hm1, hm0]; omega
theorem z_m3 (q base : Nat) (lo : Option Addr) (cap : Nat) (ls : List Ln) (hl : ls.length ≤ 60) (hl0 : 0 < ls.length) (hz : ∀ l ∈ ls, LnSz l) : ∀ n, z_nq n q base lo cap ls
 | 0 => z_jQ 0 q base lo cap ls hl hl0 fun t rest at_ ht hn hw hd => by
   have := z_b9 t
   have : 1 ≤ z_ai t := by cases t <;> simp [z_ai, z_aS] at hn ⊢
   omega
 | n + 1 => z_jQ (n + 1) q base lo cap ls hl hl0 fun t rest at_ ht hn hw hd => z_i3 n q base lo cap ls hl hz (z_m3 q base lo cap ls hl hl0 hz n) t rest at_ ht hn hw hd
end
section
theorem z_h7 {s : ByteArray} (h : z_ac s = true) : numB s = false := by
 cases hn : numB s with
 | false => rfl
 | true =>
  exfalso
  rw [← z_bT] at hn
  simp only [z_ac, z_i2, Bool.and_eq_true, decide_eq_true_eq] at h
  obtain ⟨h0, h1, h2⟩ := h
  cases hl : s.data.toList with
  | nil => rw [hl] at h1; simp at h1
  | cons b r =>
   rw [hl] at h0 hn
   simp only [z_bt, Bool.and_eq_true] at h0
   have hb := h0.1
   simp only [okC, Bool.or_eq_true, Bool.and_eq_true, decide_eq_true_eq] at hb
   have hb2 : 97 ≤ b.toNat := by
    rcases hb with h | h
    ·exact h.1
    ·exact absurd h.1 (by omega)
   have hneg : negL (b :: r) = false := by
    have : b ≠ 45 := fun e => by rw [e] at hb2; exact absurd hb2 (by decide)
    simp [negL, this]
   have hr : restL (b :: r) = b :: r := by simp [restL, hneg]
   simp only [numL, hr, Bool.and_eq_true] at hn
   have hf := z_eG (b :: r) 0 (by simp) (by simp [digB]; omega)
   rw [hf] at hn
   exact Bool.noConfusion hn.1
theorem z_f0 (ks : List ByteArray) : ∀ (args : List ByteArray), (∀ s ∈ args, z_an s = true) → z_dF ks args = allB (z_ce ks) args
 | [], _ => rfl
 | s :: r, h => by
  have ih := z_f0 ks r (fun x hx => h x (by simp [hx]))
  have e1 : z_dF ks (s :: r) = ((!z_ac s || hasB ks s) && z_dF ks r) := rfl
  have e2 : allB (z_ce ks) (s :: r) = (z_ce ks s && allB (z_ce ks) r) := rfl
  rw [e1, e2, ih]
  congr 1
  have ho := h s (by simp)
  unfold z_ce
  unfold z_an at ho
  cases hn : z_ac s with
  | true => rw [z_h7 hn]; rfl
  | false =>
   rw [hn, Bool.false_or] at ho
   rw [ho]; rfl
theorem z_ms {ks : List ByteArray} {s x : ByteArray} : x ∈ addU ks s ↔ x ∈ ks ∨ x = s := by
 unfold addU
 split
 ·rename_i h
  rw [z_ci] at h
  exact ⟨.inl, fun hx => hx.elim id fun e => e ▸ h⟩
 ·simp
theorem z_eF {x : ByteArray} : ∀ (ss ks : List ByteArray), x ∈ uniU ks ss ↔ x ∈ ks ∨ x ∈ ss
 | [], ks => by simp [uniU]
 | s :: r, ks => by
  have e : uniU ks (s :: r) = uniU (addU ks s) r := rfl
  rw [e, z_eF r, z_ms, List.mem_cons, or_assoc]
theorem mem_setsL {x : ByteArray} {ls : List Ln} : x ∈ z_aY ls ↔ ∃ l ∈ ls, l.2.to = x ∧ x.size ≠ 0 := by
 unfold z_aY
 rw [z_eF]
 simp only [List.not_mem_nil, false_or, z_ax, List.mem_filter, List.mem_map, decide_eq_true_eq]
 constructor
 ·rintro ⟨⟨l, hl, e⟩, hx⟩; exact ⟨l, hl, e, hx⟩
 ·rintro ⟨l, hl, e, hx⟩; exact ⟨⟨l, hl, e⟩, hx⟩
theorem z_ig {x : ByteArray} {ls : List Ln} : x ∈ z_bm ls ↔ ∃ l ∈ ls, l.1 = 5 ∧ l.2.name = x := by
 unfold z_bm
 rw [z_eF]
 simp only [List.not_mem_nil, false_or, List.mem_filter, List.mem_map, beq_iff_eq]
 constructor
 ·rintro ⟨l, ⟨hl, h5⟩, e⟩; exact ⟨l, hl, h5, e⟩
 ·rintro ⟨l, hl, h5, e⟩; exact ⟨l, ⟨hl, h5⟩, e⟩
theorem mem_touchL {x : ByteArray} {ls : List Ln} : x ∈ z_bk ls ↔ x ∈ z_aY ls ∨ ∃ l ∈ ls, x ∈ l.2.args ∧ z_ac x = true := by
 unfold z_bk
 rw [z_eF]
 simp only [List.mem_flatMap, argN, List.mem_filter]
theorem z_gE {a b : List ByteArray} : 0 < (comm a b).length ↔ ∃ x, x ∈ a ∧ x ∈ b := by
 rw [List.length_pos_iff_exists_mem]
 simp only [comm, List.mem_filter, z_ci]
def z_lj (l : Ln) : Prop := l.2.to = eS ∧ l.2.args = [] ∧ l.1 ≠ 5
def z_gg (X Y : List Ln) : Nat := (comm (z_aY X) (z_bk Y)).length + (comm (z_aY Y) (z_bk X)).length + (comm (z_bm X) (z_bm Y)).length
theorem z_d4 {l : Ln} {xs : List Ln} (hl : z_lj l) {x : ByteArray} : x ∈ z_aY (l :: xs) ↔ x ∈ z_aY xs := by
 simp only [mem_setsL, List.mem_cons]
 constructor
 ·rintro ⟨a, ha, e, hx⟩
  rcases ha with rfl | ha
  ·rw [hl.1] at e; subst e; exact absurd rfl hx
  ·exact ⟨a, ha, e, hx⟩
 ·rintro ⟨a, ha, e, hx⟩; exact ⟨a, .inr ha, e, hx⟩
theorem z_ga {l : Ln} {xs : List Ln} (hl : z_lj l) {x : ByteArray} : x ∈ z_bm (l :: xs) ↔ x ∈ z_bm xs := by
 simp only [z_ig, List.mem_cons]
 constructor
 ·rintro ⟨a, ha, e, hx⟩
  rcases ha with rfl | ha
  ·exact absurd e hl.2.2
  ·exact ⟨a, ha, e, hx⟩
 ·rintro ⟨a, ha, e, hx⟩; exact ⟨a, .inr ha, e, hx⟩
theorem z_fn {l : Ln} {xs : List Ln} (hl : z_lj l) {x : ByteArray} : x ∈ z_bk (l :: xs) ↔ x ∈ z_bk xs := by
 rw [mem_touchL, mem_touchL, z_d4 hl]
 constructor
 ·rintro (h | ⟨a, ha, hx, hn⟩)
  ·exact .inl h
  ·rcases List.mem_cons.1 ha with rfl | ha
   ·rw [hl.2.1] at hx; cases hx
   ·exact .inr ⟨a, ha, hx, hn⟩
 ·rintro (h | ⟨a, ha, hx, hn⟩)
  ·exact .inl h
  ·exact .inr ⟨a, List.mem_cons_of_mem _ ha, hx, hn⟩
theorem meddB_iff {a b : Ln} : z_cW a b = true ↔ a.2.to.size ≠ 0 ∧ (a.2.to = b.2.to ∨ a.2.to ∈ b.2.args) := by
 unfold z_cW
 rw [z_av, z_aI]
 simp only [Bool.and_eq_true, Bool.not_eq_true', decide_eq_false_iff_not, Bool.or_eq_true, decide_eq_true_eq, z_ci]
theorem sigB_iff {a b : Ln} : sigB a b = true ↔ a.1 = 5 ∧ b.1 = 5 ∧ a.2.name = b.2.name := by
 unfold sigB
 rw [z_aI]
 simp only [Bool.and_eq_true, beq_iff_eq, decide_eq_true_eq]
theorem z_gd {xs ys : List Ln} (hx : ∀ a ∈ xs, a.2.to = eS ∨ z_ac a.2.to = true) : (∃ x, x ∈ z_aY xs ∧ x ∈ z_bk ys) ↔ ∃ a ∈ xs, ∃ b ∈ ys, z_cW a b = true := by
 constructor
 ·rintro ⟨x, h1, h2⟩
  obtain ⟨a, ha, rfl, hs⟩ := mem_setsL.1 h1
  rcases mem_touchL.1 h2 with h | ⟨b, hb, hm, _⟩
  ·obtain ⟨b, hb, e, _⟩ := mem_setsL.1 h
   exact ⟨a, ha, b, hb, meddB_iff.2 ⟨hs, .inl e.symm⟩⟩
  ·exact ⟨a, ha, b, hb, meddB_iff.2 ⟨hs, .inr hm⟩⟩
 ·rintro ⟨a, ha, b, hb, h⟩
  obtain ⟨hs, h⟩ := meddB_iff.1 h
  refine ⟨a.2.to, mem_setsL.2 ⟨a, ha, rfl, hs⟩, mem_touchL.2 ?_⟩
  rcases h with h | h
  ·exact .inl (mem_setsL.2 ⟨b, hb, h.symm, hs⟩)
  ·refine .inr ⟨b, hb, h, ?_⟩
   rcases hx a ha with e | e
   ·rw [e] at hs; exact absurd rfl hs
   ·exact e
theorem z_lk {l m : Ln} {xs ys : List Ln} (hl : z_lj l) (hm : z_lj m) (hx : ∀ a ∈ xs, a.2.to = eS ∨ z_ac a.2.to = true) (hy : ∀ a ∈ ys, a.2.to = eS ∨ z_ac a.2.to = true) :
  0 < z_gg (l :: xs) (m :: ys) ↔ z_a4 xs ys = true := by
 have e1 : 0 < (comm (z_aY (l :: xs)) (z_bk (m :: ys))).length ↔ ∃ a ∈ xs, ∃ b ∈ ys, z_cW a b = true := by
  rw [z_gE, ← z_gd hx]
  simp only [z_d4 hl, z_fn hm]
 have e2 : 0 < (comm (z_aY (m :: ys)) (z_bk (l :: xs))).length ↔ ∃ b ∈ ys, ∃ a ∈ xs, z_cW b a = true := by
  rw [z_gE, ← z_gd hy]
  simp only [z_d4 hm, z_fn hl]
 have e3 : 0 < (comm (z_bm (l :: xs)) (z_bm (m :: ys))).length ↔ ∃ a ∈ xs, ∃ b ∈ ys, sigB a b = true := by
  rw [z_gE]
  simp only [z_ga hl, z_ga hm, z_ig]
  constructor
  ·rintro ⟨x, ⟨a, ha, h5, e⟩, ⟨b, hb, h5', e'⟩⟩
   exact ⟨a, ha, b, hb, sigB_iff.2 ⟨h5, h5', e.trans e'.symm⟩⟩
  ·rintro ⟨a, ha, b, hb, h⟩
   obtain ⟨h5, h5', e⟩ := sigB_iff.1 h
   exact ⟨a.2.name, ⟨a, ha, h5, rfl⟩, ⟨b, hb, h5', e.symm⟩⟩
 have e4 : z_a4 xs ys = true ↔ ∃ a ∈ xs, ∃ b ∈ ys, (z_cW a b = true ∨ z_cW b a = true ∨ sigB a b = true) := by
  unfold z_a4 z_eA
  simp only [List.any_eq_true, Bool.or_eq_true]
 rw [e4]
 unfold z_gg
 constructor
 ·intro h
  have h' : 0 < (comm (z_aY (l :: xs)) (z_bk (m :: ys))).length ∨ 0 < (comm (z_aY (m :: ys)) (z_bk (l :: xs))).length ∨ 0 < (comm (z_bm (l :: xs)) (z_bm (m :: ys))).length := by omega
  rcases h' with h | h | h
  ·obtain ⟨a, ha, b, hb, h⟩ := e1.1 h; exact ⟨a, ha, b, hb, .inl h⟩
  ·obtain ⟨b, hb, a, ha, h⟩ := e2.1 h; exact ⟨a, ha, b, hb, .inr (.inl h)⟩
  ·obtain ⟨a, ha, b, hb, h⟩ := e3.1 h; exact ⟨a, ha, b, hb, .inr (.inr h)⟩
 ·rintro ⟨a, ha, b, hb, h | h | h⟩
  ·have := e1.2 ⟨a, ha, b, hb, h⟩; omega
  ·have := e2.2 ⟨b, hb, a, ha, h⟩; omega
  ·have := e3.2 ⟨a, ha, b, hb, h⟩; omega
def oK (o : Opn) : Int := if o.2 = true then (if o.1 = 9 then 10 else 7) else o.1
theorem z_kw {f : Bool} {os : List Opn} {k : Int} (h : (k == 1) ≠ f) : z_bo f os k = none := by
 unfold z_bo
 have : ((k == 1) != f) = true := by simpa using h
 rw [if_neg]
 rw [z_aR, if_pos this]; simp
theorem z_ib {f : Bool} {os : List Opn} {k : Int} (h : (k == 1) = f) (ho : z_am k = true) : z_bo f os k = if 5 ≤ os.length then none else some (os ++ [(k, false)]) := by
 unfold z_bo
 have : ¬ ((k == 1) != f) = true := by simp [h]
 rw [z_aR, if_neg this, if_pos ho]
 by_cases h5 : 5 ≤ os.length
 ·rw [if_pos h5, if_neg]; simp [ho, h5]
 ·rw [if_neg h5, if_pos]; simp; omega
theorem z_kU {f : Bool} {os : List Opn} {k : Int} (h : (k == 1) = f) (ho : z_am k = false) (hc : z_ae k = false) : z_bo f os k = some os := by
 have : ¬ ((k == 1) != f) = true := by simp [h]
 have e : z_aR os k f = (os, true) := by rw [z_aR, if_neg this, if_neg (by simp [ho]), if_pos (by simp [hc])]
 unfold z_bo
 rw [e, if_pos]
 simp [ho]
theorem z_gT {k : Int} (hc : z_ae k = true) : z_bo false [] k = none := by
 cases h : z_bo false [] k with
 | none => rfl
 | some x => exact absurd h (z_c6 hc)
theorem z_hY {os : List Opn} {o : Opn} : z_bo false (os ++ [o]) 7 = if z_aE (oK o) = true then some (os ++ [(o.1, true)]) else none := by
 obtain ⟨x, t⟩ := o
 unfold z_bo
 have e1 : z_aR (os ++ [(x, t)]) 7 false = (os ++ [(x, true)], z_aE x && !t) := by
  simp [z_aR, z_am, z_ae, z_aE]
 rw [e1]
 have e2 : z_am 7 = false := rfl
 cases t with
 | true =>
  have : z_aE (oK (x, true)) = false := by
   simp only [oK, if_true]; split <;> rfl
  rw [this, if_neg (by simp), if_neg (by simp)]
 | false =>
  have : oK (x, false) = x := rfl
  rw [this]
  by_cases hx : z_aE x = true
  ·rw [if_pos (by simp [hx, e2]), if_pos hx]
  ·rw [if_neg (by simp [hx]), if_neg hx]
theorem z_j7 {os : List Opn} {o : Opn} : z_bo false (os ++ [o]) 10 = if oK o = 9 then some (os ++ [(o.1, true)]) else none := by
 obtain ⟨x, t⟩ := o
 unfold z_bo
 have e1 : z_aR (os ++ [(x, t)]) 10 false = (os ++ [(x, true)], (x == 9) && !t) := by
  simp [z_aR, z_am, z_ae, z_aE]
 rw [e1]
 have e2 : z_am 10 = false := rfl
 cases t with
 | true =>
  have : ¬ oK (x, true) = 9 := by
   simp only [oK, if_true]; split <;> decide
  rw [if_neg this, if_neg (by simp)]
 | false =>
  have : oK (x, false) = x := rfl
  rw [this]
  by_cases hx : x = 9
  ·rw [if_pos (by simp [hx, e2]), if_pos hx]
  ·rw [if_neg (by simp [hx]), if_neg hx]
theorem z_kj {os : List Opn} {o : Opn} : z_bo false (os ++ [o]) 11 = if oK o = 9 then none else some os := by
 obtain ⟨x, t⟩ := o
 unfold z_bo
 have e1 : z_aR (os ++ [(x, t)]) 11 false = (os, (x != 9) || t) := by
  simp [z_aR, z_am, z_ae, z_aE]
 rw [e1]
 have e2 : z_am 11 = false := rfl
 cases t with
 | true =>
  have : ¬ oK (x, true) = 9 := by
   simp only [oK, if_true]; split <;> decide
  rw [if_neg this, if_pos (by simp [e2])]
 | false =>
  have : oK (x, false) = x := rfl
  rw [this]
  by_cases hx : x = 9
  ·rw [if_pos hx, if_neg (by simp [hx])]
  ·rw [if_neg hx, if_pos (by simp [hx, e2])]
end
end Go.Proofs.YtlbjjbolbopfmaaGreatDoor
