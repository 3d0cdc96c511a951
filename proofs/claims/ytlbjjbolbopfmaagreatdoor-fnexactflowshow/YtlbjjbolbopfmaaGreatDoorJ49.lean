import Derived.Test.YtlbjjbolbopfmaaGreatDoorJ47
import Derived.Test.YtlbjjbolbopfmaaGreatDoorJ48
import Derived.Test.YtlbjjbolbopfmaaGreatDoorJ36
import Derived.Test.YtlbjjbolbopfmaaGreatDoorJ23
import Derived.Test.YtlbjjbolbopfmaaGreatDoorJ10
import Derived.Test.YtlbjjbolbopfmaaGreatDoorJ07
import Derived.Test.YtlbjjbolbopfmaaGreatDoorJ06
namespace Go.Proofs.YtlbjjbolbopfmaaGreatDoor
set_option maxHeartbeats 16000000
set_option maxRecDepth 1000000
set_option linter.unusedVariables false
section
open Go.RowKit
def kEnd : List Ln → Int
 | [] => 11
 | c :: _ => c.1
def aEnd (n : Nat) : List Ln → Nat
 | [] => n
 | _ :: _ => n + 1
def SkIH (n q base : Nat) (lo : Option Addr) (cap : Nat) (ls : List Ln) : Prop :=
 ∀ (p : Bl) (rest : List Ln) (at_ : Nat), p.flat.length ≤ n → p.wf → ls.drop at_ = p.flat ++ rest → z_jq rest →
  SkBlk q base lo cap ls at_ (aEnd (at_ + p.flat.length) rest) (500 - p.flat.length) (kEnd rest) (fun k => z_aM k p)
theorem SkBlk.weak {q base : Nat} {lo : Option Addr} {cap : Nat} {ls : List Ln} {at_ at2 at3 N M : Nat} {k k' : Int} {f : Nat → List Stp} (h : SkBlk q base lo cap ls at_ at2 N k f) (e : at2 = at3) (ek : k = k') (hM : M ≤ N) : SkBlk q base lo cap ls at_ at3 M k' f := by
 subst e ek
 intro w v ps hs hps
 exact h w v ps hs (Nat.le_trans hps hM)
theorem SkInn.congr {q base : Nat} {lo : Option Addr} {cap : Nat} {ls : List Ln} {F at_ at2 at3 N M : Nat} {l l' : Ln} {f g : Nat → List Stp} (h : SkInn q base lo cap ls F at_ at2 N l f) (e : at2 = at3) (el : l = l') (hM : M ≤ N) (hfg : ∀ n, f n = g n) : SkInn q base lo cap ls F at_ at3 M l' g := by
 subst e el
 intro w v ps ao c hs ha hps
 rw [← hfg]
 exact h w v ps ao c hs ha (Nat.le_trans hps hM)
theorem z_gt (n q base : Nat) (lo : Option Addr) (cap : Nat) (ls : List Ln) (hl : ls.length ≤ 60) (hg : ∀ l ∈ ls, GoodL l) (IH : SkIH n q base lo cap ls)
  (t : Bl) (rest : List Ln) (at_ : Nat) (ht : t.flat.length ≤ n + 1) (hn : z_aR t = true) (ho : z_am (z_au t).1 = true) (hw : t.wf) (hd : ls.drop at_ = t.flat ++ rest) :
  SkInn q base lo cap ls 72 at_ (at_ + z_ai t) (500 - z_ai t) (z_au t) (fun k => z_b2 k t) := by
 have hfl : at_ + t.flat.length ≤ ls.length := by
  have h := congrArg List.length hd
  obtain ⟨hx, _⟩ := z_bX hd hn
  simp at h; omega
 cases t with
 | nil => cases hn
 | plain l r => have := hw.1; rw [show (z_au (.plain l r)).1 = l.1 from rfl, this] at ho; cases ho
 | one l p e r =>
  have hd1 : ls.drop at_ = l :: (p.flat ++ (e :: (r.flat ++ rest))) := by rw [hd]; simp [Bl.flat]
  obtain ⟨h1, h2, h3⟩ := z_a2 hd1
  simp only [Bl.flat, List.length_cons, List.length_append] at ht hfl
  have hlin : l ∈ ls := List.mem_of_mem_drop (by rw [hd1]; simp : l ∈ ls.drop at_)
  have hgl := (hg l hlin).good
  obtain ⟨hto, hud⟩ := hgl.opens ho
  have ha3 := hgl.args3
  have hB := IH p _ (at_ + 1) (by omega) hw.2.2.2.1 h3 (.inr ⟨e, _, rfl, by rw [hw.2.2.1]; rfl⟩)
  have hsz := z_aT p hw.2.2.2.1
  have hm : ∀ n, (z_aM n p).length ≤ 1000 := fun n => by rw [z_at]; omega
  obtain ⟨kd, dd⟩ := l
  simp only at hto hud ha3
  have hok := hw.1
  rw [z_b6] at hok
  have h9 : kd ≠ 9 := hw.2.1
  by_cases h8 : kd = 8
  ·subst h8
   have h := z_hc q base lo cap ls at_ _ (500 - z_ai (.one (8, dd) p e r)) (500 - p.flat.length) _ _ dd (by omega) hto hud (by omega) (by omega) (by simp only [z_ai]; omega) hm hB
   refine h.congr (by simp only [aEnd, z_ai]; omega) rfl (Nat.le_refl _) fun k => ?_
   simp only [z_b2, if_true, z_at]
  ·have hk : kd = 6 ∨ kd = 14 := by
    rcases hok with h | h | h | h
    ·exact .inl h
    ·exact .inr h
    ·exact absurd h h8
    ·exact absurd h h9
   have hC := z_hd q base lo cap ls (at_ + 1) _ (500 - z_ai (.one (kd, dd) p e r)) (500 - p.flat.length) _ kd dd hk hto hud (by omega) (by omega) (by simp only [z_ai]; omega) hm (hB.weak rfl (show kEnd (e :: (r.flat ++ rest)) = 11 from hw.2.2.1) (Nat.le_refl _))
   have h := z_cX q base lo cap ls at_ _ _ kd dd _ (by omega) (beq_eq_false_iff_ne.2 h8) (beq_eq_false_iff_ne.2 h9) hC
   refine h.congr (by simp only [aEnd, z_ai]; omega) rfl (Nat.le_refl _) fun k => ?_
   simp only [z_b2, if_neg h8, z_at]
 | two l p m qq e r =>
  have hd1 : ls.drop at_ = l :: (p.flat ++ (m :: (qq.flat ++ (e :: (r.flat ++ rest))))) := by rw [hd]; simp [Bl.flat]
  obtain ⟨h1, h2, h3⟩ := z_a2 hd1
  have h4 := z_bB h3
  obtain ⟨h5, h6, h7⟩ := z_a2 h4
  simp only [Bl.flat, List.length_cons, List.length_append] at ht hfl
  have hmc : z_ae m.1 = true := by rcases hw.1 with ⟨_, h⟩ | ⟨_, h⟩ <;> rw [h] <;> rfl
  have hec : z_ae e.1 = true := by rw [hw.2.1]; rfl
  have hlin : l ∈ ls := List.mem_of_mem_drop (by rw [hd1]; simp : l ∈ ls.drop at_)
  have hgl := (hg l hlin).good
  obtain ⟨hto, hud⟩ := hgl.opens ho
  have ha3 := hgl.args3
  have hB1 := IH p _ (at_ + 1) (by omega) hw.2.2.1 h3 (.inr ⟨m, _, rfl, hmc⟩)
  have hB2 := IH qq _ (at_ + 1 + p.flat.length + 1) (by omega) hw.2.2.2.1 h7 (.inr ⟨e, _, rfl, hec⟩)
  have hs1 := z_aT p hw.2.2.1
  have hs2 := z_aT qq hw.2.2.2.1
  have hm1 : ∀ n, (z_aM n p).length ≤ p.flat.length := fun n => by rw [z_at]; exact hs1
  have hm2 : ∀ n, (z_aM n qq).length ≤ 1000 := fun n => by rw [z_at]; omega
  obtain ⟨kd, dd⟩ := l
  simp only at hto hud ha3
  rcases hw.1 with ⟨hch, hm7⟩ | ⟨hl9, hm10⟩
  ·have h9 : kd ≠ 9 := fun h => by subst h; cases hch
   have h8 : kd ≠ 8 := fun h => by subst h; cases hch
   have hk := (z_bK kd).1 hch
   have hC := z_gR q base lo cap ls (at_ + 1) _ _ (500 - z_ai (.two (kd, dd) p m qq e r)) (501 - z_ai (.two (kd, dd) p m qq e r)) _ _ _ kd dd hk hto hud (by omega) (by omega) (by simp only [z_ai]; omega) (by omega) p.flat.length (by omega) hm1 hm2 (hB1.weak rfl (show kEnd (m :: _) = 7 from hm7) (by simp only [z_ai]; omega)) (hB2.weak rfl rfl (by simp only [z_ai]; omega))
   have h := z_cX q base lo cap ls at_ _ _ kd dd _ (by omega) (beq_eq_false_iff_ne.2 h8) (beq_eq_false_iff_ne.2 h9) hC
   refine h.congr (by simp only [aEnd, z_ai]; omega) rfl (Nat.le_refl _) fun k => ?_
   simp only [z_b2, if_neg h9, z_at]
  ·have hl9' : kd = 9 := hl9
   subst hl9'
   obtain ⟨_, hnm, ha0, _⟩ := hgl.bare (.inl rfl)
   have h := z_gT q base lo cap ls at_ _ _ (500 - z_ai (.two (9, dd) p m qq e r)) (501 - z_ai (.two (9, dd) p m qq e r)) _ _ _ _ dd (by omega) hto hnm ha0 hud (by omega) (by simp only [z_ai]; omega) (by omega) p.flat.length (by omega) hm1 hm2 (hB1.weak rfl rfl (by simp only [z_ai]; omega)) (hB2.weak rfl rfl (by simp only [z_ai]; omega))
   refine h.congr (by simp only [aEnd, z_ai]; omega) rfl (Nat.le_refl _) fun k => ?_
   simp only [z_b2, if_true, z_at]
end
section
open Go.RowKit
theorem z_jc {k : Int} {d : Bd} {r : List ByteArray} (h : z_af k r = some d) (ho : z_am k = false) (hc : z_ae k = false) (h1 : (k != 1) = true) : z_h3 k = z_cg k ∧ 0 < z_cg k ∧ z_cg k ≤ 12 := by
 have hk : k = 2 ∨ k = 3 ∨ k = 4 ∨ k = 5 ∨ k = 12 ∨ k = 13 ∨ k = 15 := by
  unfold z_af at h
  split at h
  ·rename_i e; subst e; cases h1
  split at h
  ·rename_i e; exact .inl e
  split at h
  ·rename_i e; exact .inr (.inl e)
  split at h
  ·rename_i e; exact .inr (.inr (.inr (.inl e)))
  split at h
  ·rename_i e; exfalso; rcases e with e | e <;> subst e <;> cases ho
  split at h
  ·rename_i e; exfalso; rcases e with e | e | e | e <;> subst e <;> first | (cases hc; done) | (cases ho; done)
  split at h
  ·rename_i e; rcases e with e | e | e
   ·exact .inr (.inr (.inl e))
   ·exact .inr (.inr (.inr (.inr (.inl e))))
   ·exact .inr (.inr (.inr (.inr (.inr (.inl e)))))
  split at h
  ·rename_i e; subst e; cases ho
  split at h
  ·rename_i e; exact .inr (.inr (.inr (.inr (.inr (.inr e)))))
  ·cases h
 rcases hk with h | h | h | h | h | h | h <;> subst h <;> decide
theorem z_gb {k : Int} (h : z_am k = true ∨ z_ae k = true) : z_h3 k = 0 := by
 rcases h with h | h
 ·rw [z_b6] at h
  rcases h with h | h | h | h <;> subst h <;> rfl
 ·rw [z_be] at h
  rcases h with h | h | h <;> subst h <;> rfl
theorem z_kS {t : Bl} (hn : z_aR t = true) (hw : t.wf) (ho : z_am (z_au t).1 = false) : z_ai t = 1 ∧ ∀ n, z_b2 n t = [z_as (z_au t) 0 0] := by
 refine ⟨(z_dw [] false true hn hw ho).1, fun n => ?_⟩
 cases t with
 | nil => cases hn
 | plain l r => rfl
 | one l p e r => have := hw.1; rw [show (z_au (.one l p e r)).1 = l.1 from rfl, this] at ho; cases ho
 | two l p m q e r =>
  exfalso
  rw [show (z_au (.two l p m q e r)).1 = l.1 from rfl] at ho
  rcases hw.1 with ⟨h, _⟩ | ⟨h, _⟩
  ·rw [z_bK] at h; rcases h with h | h <;> rw [h] at ho <;> cases ho
  ·rw [h] at ho; cases ho
def SkNI (m q base : Nat) (lo : Option Addr) (cap : Nat) (ls : List Ln) : Prop :=
 ∀ (t : Bl) (rest : List Ln) (at_ : Nat), t.flat.length ≤ m → z_aR t = true → z_am (z_au t).1 = true → t.wf → ls.drop at_ = t.flat ++ rest →
  SkInn q base lo cap ls 72 at_ (at_ + z_ai t) (500 - z_ai t) (z_au t) (fun k => z_b2 k t)
def skAt (q : Nat) (w : World) : Nat := match w.cell? ⟨q, 1, none⟩ with
 | some v => (intOf v).toNat
 | none => 0
theorem SkSt.skAt {q base : Nat} {lo : Option Addr} {cap : Nat} {ls : List Ln} {w : World} {at_ : Nat} {v : Value} {ps : List (Stp × Value)} (h : SkSt q base lo cap ls w at_ v ps) : Go.Proofs.YtlbjjbolbopfmaaGreatDoor.skAt q w = at_ := by
 unfold Go.Proofs.YtlbjjbolbopfmaaGreatDoor.skAt
 rw [h.c1]; simp [intOf]
theorem z_l5 {q base : Nat} {b off : Nat} {cap : Nat} {ls : List Ln} {w : World} {at_ : Nat} {v : Value} {ps : List (Stp × Value)} {c : Ln} (h : SkSt q base (some ⟨b, off, none⟩) cap ls w at_ v ps) (h1 : at_ < ls.length) (h2 : ls[at_] = c) : ∃ aoA capA, c.2.args.length ≤ capA ∧ w.cell? ⟨b, off + at_ * 5, none⟩ = some (.int .i64 c.1) ∧ w.cell? ⟨b, off + at_ * 5 + 1, none⟩ = some (.string c.2.to) ∧ w.cell? ⟨b, off + at_ * 5 + 2, none⟩ = some (.string c.2.name) ∧ w.cell? ⟨b, off + at_ * 5 + 3, none⟩ = some (.slice aoA c.2.args.length capA) ∧ w.cell? ⟨b, off + at_ * 5 + 4, none⟩ = some (.string c.2.undo) ∧ b < q ∧ StrsAt 0 q w aoA c.2.args := by
 obtain ⟨b', off', e, hB, aoA, capA, hcA, q0, q1, q2, q3, q4, hA⟩ := h.lines at_ h1
 cases e
 rw [h2] at q0 q1 q2 q3 q4 hcA hA
 exact ⟨aoA, capA, hcA, q0, q1, q2, q3, q4, hB, hA⟩
theorem z_k (m q base : Nat) (lo : Option Addr) (cap : Nat) (ls : List Ln) (hl : ls.length ≤ 60) (hl0 : 0 < ls.length) (hg : ∀ l ∈ ls, GoodL l) (hr : ∀ l ∈ ls, ∃ r, z_af l.1 r = some l.2) (HI : SkNI m q base lo cap ls) : SkIH m q base lo cap ls := by
 intro t rest at_ ht hw hd hend w v ps hs hN
 have HII : Hid (SkNI m q base lo cap ls) := HI
 have HGd : Hid (∀ l ∈ ls, GoodL l) := hg
 have HRd : Hid (∀ l ∈ ls, ∃ r, z_af l.1 r = some l.2) := hr
 obtain ⟨b, off, rfl, _⟩ := hs.lines 0 hl0
 have HS : Hid (SkSt q base (some ⟨b, off, none⟩) cap ls w at_ v ps) := hs
 have hfl : t.flat.length ≤ 60 ∨ True := .inr trivial
 have hN2 : ps.length + t.flat.length ≤ 500 ∨ t.flat = [] := by
  rcases h : t.flat with _ | ⟨x, y⟩
  ·exact .inr rfl
  ·left
   have h2 := congrArg List.length hd
   rw [h] at h2 hN
   simp at h2 hN ⊢; omega
 have hN3 : ps.length + t.flat.length ≤ 500 := by
  rcases hN2 with h | h
  ·exact h
  ·rw [h] at hN ⊢; simpa using hN
 clear hs hN HI hg hr hN2 hfl
 go_enter Tryz.func32, Tryz.ntmps32
 go_wp2_with fail
 go_loopw [] (fun wr => ∃ (t' : Bl) (at' : Nat) (qs : List (Stp × Value)) (v' : Value), Hid (SkSt q base (some ⟨b, off, none⟩) cap ls wr at' v' (ps ++ qs)) ∧ Hid (Wk q v.ownBlock w wr ∧ RowTo w v v') ∧ Hid (ls.drop at' = t'.flat ++ rest) ∧ Hid t'.wf ∧ t'.flat.length ≤ m ∧ at' + t'.flat.length = at_ + t.flat.length ∧ Hid (z_aM ps.length t = qs.map (·.1) ++ z_aM (ps.length + qs.length) t') ∧ ps.length + qs.length + t'.flat.length ≤ 500) (fun wr => ls.length + 1 - skAt q wr)
 case atStart => exact ⟨t, at_, [], v, by rw [List.append_nil]; exact HS.out, ⟨Wk.refl, RowTo.refl⟩, hd, hw, ht, rfl, rfl, by simpa using hN3⟩
 case round =>
  obtain ⟨t', at', qs, v', HS1, HK1, HD1, HW1, htm, hsum, HC1, hlen⟩ := hrel
  have d0 := HS1.out.c0
  have d1 := HS1.out.c1
  have hlt1 := HS1.out.lt
  cases hnode : z_aR t' with
  | false =>
   have ht' : t' = .nil := by cases t' <;> first | rfl | cases hnode
   subst ht'
   have hD : ls.drop at' = rest := by have := HD1.out; simpa [Bl.flat] using this
   have HR : Hid (qs.map (·.1) = z_aM ps.length t) := by have := HC1.out; simpa [z_aM, Hid] using this.symm
   have hat' : Hid (at' = at_ + t.flat.length) := by show _ = _; simpa [Bl.flat] using hsum
   rcases hend with rfl | ⟨c, r, rfl, hcl⟩
   ·have hge : ls.length ≤ at' := by
     rcases Nat.lt_or_ge at' ls.length with h | h
     ·have := congrArg List.length hD; simp at this; omega
     ·exact h
    have hge2 : ¬ (at' : Int) < ls.length := by omega
    have hge3 : decide (at' < ls.length) = false := decide_eq_false (by omega)
    have hge4 : decide ((at' : Int) < ls.length) = false := decide_eq_false (by omega)
    go_wp2_with fail
    go_quiet (fail)
    go_wp2_with fail
    go_ret
    refine ⟨rfl, v', qs, HR.out, ?_, HK1.out.1.trans (Wk.of_below (row := v'.ownBlock) (z_aa (Below.refl _ _) nq)) HK1.out.2.or, HK1.out.2⟩
    show SkSt q base _ cap ls _ (at_ + t.flat.length) v' _
    rw [← hat'.out]
    exact HS1.out.below (z_aa (Below.refl _ _) nq)
   ·obtain ⟨h1, h2, _⟩ := z_a2 hD
    obtain ⟨aoA, capA, hcA, q0, q1, q2, q3, q4, hbq, hA⟩ := z_l5 HS1.out h1 h2
    have h3 : (at' : Int) < ls.length := by omega
    have hbw : b < wr.heap.size := by omega
    have hp0 := z_gb (.inr hcl)
    have hop : z_am c.1 = false := by rw [z_be] at hcl; rcases hcl with h | h | h <;> rw [h] <;> rfl
    have HRet : Hid (∀ W : World, Below wr.heap.size wr W → SkSt q base (some ⟨b, off, none⟩) cap ls (W.setCell ⟨q, 1, none⟩ (.int .i64 ((at' : Int) + 1))) (at_ + t.flat.length + 1) v' (ps ++ qs) ∧ Wk q v.ownBlock w (W.setCell ⟨q, 1, none⟩ (.int .i64 ((at' : Int) + 1)))) := fun W hb => by
     have h := (HS1.out.below hb).set1 (at' + 1)
     rw [show ((at' + 1 : Nat) : Int) = (at' : Int) + 1 by omega] at h
     rw [← hat'.out]
     exact ⟨h, (HK1.out.1.trans (Wk.of_below (row := v'.ownBlock) hb) HK1.out.2.or).trans (Wk.of_set (row := v'.ownBlock) 1 _) HK1.out.2.or⟩
    obtain ⟨kd, dd⟩ := c
    simp only at q0 q1 q2 q3 q4 hp0 hop hcA
    clear hcl hA h2 hat'
    go_wp2_with fail
    go_quiet (fail)
    obtain ⟨W0, hW0⟩ : ∃ W0, W0 = wr.drewN nq := ⟨_, rfl⟩
    have HB0 : Hid (Below wr.heap.size wr W0) := by rw [hW0]; exact z_aa (Below.refl _ _) nq
    rw [← hW0]
    clear hW0
    have z0 := (HB0.out.cell (p := ⟨q, 0, none⟩) hlt1).trans d0
    have z1 := (HB0.out.cell (p := ⟨q, 1, none⟩) hlt1).trans d1
    have y0 := (HB0.out.cell (p := ⟨b, _, none⟩) hbw).trans q0
    have y1 := (HB0.out.cell (p := ⟨b, _, none⟩) hbw).trans q1
    have y2 := (HB0.out.cell (p := ⟨b, _, none⟩) hbw).trans q2
    have y3 := (HB0.out.cell (p := ⟨b, _, none⟩) hbw).trans q3
    have y4 := (HB0.out.cell (p := ⟨b, _, none⟩) hbw).trans q4
    have hw0 := HB0.out.size
    have hlt0 : q < W0.heap.size := by omega
    have hbw0 : b < W0.heap.size := by omega
    clear d0 d1 q0 q1 q2 q3 q4
    go_wp2_with fail
    go_region
    all_goals
     obtain ⟨W1, hW1⟩ : ∃ W1, W1 = (W0.alloc (.cells #[.int .i64 kd, .string dd.to, .string dd.name, .slice aoA dd.args.length capA, .string dd.undo] 49)).drew := ⟨_, rfl⟩
     have hb1 : Below W0.heap.size W0 W1 := by rw [hW1]; exact ((Below.refl _ _).alloc (Nat.le_refl _) _).drew
     have hX1 : LBox W1 W0.heap.size (kd, dd) aoA capA := by rw [hW1]; exact heap_alloc_new W0 _
     rw [← hW1]
     have HB1 : Hid (Below wr.heap.size wr W1) := HB0.out.trans (hb1.mono HB0.out.size)
     have HS2 : Hid (SkSt q base (some ⟨b, off, none⟩) cap ls W1 at' v' (ps ++ qs)) := HS1.out.below HB1.out
     obtain ⟨x0, x1, x2, x3, x4⟩ := hX1.cells
     have u1 := HS2.out.c1
     have uf := HS2.out.fz 1
     have ult := HS2.out.lt
     have hqx : ¬ W0.heap.size = q := by omega
     have hqx2 : ¬ q = W0.heap.size := by omega
     clear hW1 hb1 hX1 z0 z1 y0 y1 y2 y3 y4
     go_wp2_with (first | (go_at_call 69; refine (z_ds _ _).mono ?_; rintro e W1 ⟨rfl, rfl⟩; rw [hp0]) | (go_at_call 71; refine (z_ao _ _).mono ?_; rintro e W1 ⟨rfl, rfl⟩; rw [hop]))
     go_ret
     exact ⟨rfl, v', qs, HR.out, (HRet.out _ HB1.out).1, (HRet.out _ HB1.out).2, HK1.out.2⟩
  | true =>
   obtain ⟨h1, h2⟩ := z_bX HD1.out hnode
   obtain ⟨aoA, capA, hcA, q0, q1, q2, q3, q4, hbq, hA⟩ := z_l5 HS1.out h1 h2
   have hgl := HGd.out _ (List.getElem_mem h1)
   obtain ⟨rr, hrr⟩ := HRd.out _ (List.getElem_mem h1)
   rw [h2] at hgl hrr
   have hnc := z_cL hnode HW1.out
   have hn1 := z_gm hnode HW1.out
   have h3 : (at' : Int) < ls.length := by omega
   have hbw : b < wr.heap.size := by omega
   have hln := z_b7 t'
   have hpos : 1 ≤ z_ai t' := by cases t' <;> simp [z_ai, z_aR] at hnode ⊢
   have HMK := (show Hid _ from z_iD (ps.length + qs.length) t' hnode)
   have HDr : Hid (ls.drop (at' + z_ai t') = (z_aO t').flat ++ rest) := z_cK HD1.out
   have HWr : Hid (z_aO t').wf := z_ed HW1.out
   have hnl := z_hY (ps.length + qs.length) t' HW1.out
   have hm0 : Hid (skAt q wr = at') := HS1.out.skAt
   obtain ⟨l, hL⟩ : ∃ l, l = z_au t' := ⟨_, rfl⟩
   have HLf : Hid (l = z_au t') := hL
   rw [← hL] at q0 q1 q2 q3 q4 hA hgl hnc hn1 hcA hrr
   clear hL h2
   obtain ⟨kd, dd⟩ := l
   have ha3 := hgl.good.args3
   have HA : Hid (StrsAt 0 q wr aoA dd.args) := hA
   simp only at q0 q1 q2 q3 q4 hcA ha3 hnc hn1 hrr
   have e1 : Hid (((at' + 1 : Nat) : Int) = (at' : Int) + 1) := by show _ = _; omega
   clear hgl hA
   go_wp2_with fail
   go_quiet (fail)
   obtain ⟨W0, hW0⟩ : ∃ W0, W0 = wr.drewN nq := ⟨_, rfl⟩
   have HB0 : Hid (Below wr.heap.size wr W0) := by rw [hW0]; exact z_aa (Below.refl _ _) nq
   rw [← hW0]
   clear hW0
   have z0 := (HB0.out.cell (p := ⟨q, 0, none⟩) hlt1).trans d0
   have z1 := (HB0.out.cell (p := ⟨q, 1, none⟩) hlt1).trans d1
   have y0 := (HB0.out.cell (p := ⟨b, _, none⟩) hbw).trans q0
   have y1 := (HB0.out.cell (p := ⟨b, _, none⟩) hbw).trans q1
   have y2 := (HB0.out.cell (p := ⟨b, _, none⟩) hbw).trans q2
   have y3 := (HB0.out.cell (p := ⟨b, _, none⟩) hbw).trans q3
   have y4 := (HB0.out.cell (p := ⟨b, _, none⟩) hbw).trans q4
   have hw0 := HB0.out.size
   have hlt0 : q < W0.heap.size := by omega
   have hbw0 : b < W0.heap.size := by omega
   clear d0 d1 q0 q1 q2 q3 q4
   go_wp2_with fail
   go_region
   all_goals
    obtain ⟨W1, hW1⟩ : ∃ W1, W1 = (W0.alloc (.cells #[.int .i64 kd, .string dd.to, .string dd.name, .slice aoA dd.args.length capA, .string dd.undo] 49)).drew := ⟨_, rfl⟩
    have hb1 : Below W0.heap.size W0 W1 := by rw [hW1]; exact ((Below.refl _ _).alloc (Nat.le_refl _) _).drew
    have HX1 : LBox W1 W0.heap.size (kd, dd) aoA capA := by rw [hW1]; exact heap_alloc_new W0 _
    rw [← hW1]
    have HB1 : Hid (Below wr.heap.size wr W1) := HB0.out.trans (hb1.mono HB0.out.size)
    have HS2 : Hid (SkSt q base (some ⟨b, off, none⟩) cap ls W1 at' v' (ps ++ qs)) := HS1.out.below HB1.out
    have HAq : Hid (StrsAt 0 q W1 aoA dd.args) := HA.out.below (HB1.out.mono (Nat.le_of_lt hlt1))
    have HA1 : Hid (StrsAt 0 W1.heap.size W1 aoA dd.args) := HAq.out.mono (Nat.le_refl _) (Nat.le_of_lt HS2.out.lt)
    have HK2 : Hid (Wk q v'.ownBlock wr W1) := Wk.of_below HB1.out
    obtain ⟨x0, x1, x2, x3, x4⟩ := HX1.cells
    have hqx : ¬ W0.heap.size = q := by omega
    have hqx2 : ¬ q = W0.heap.size := by omega
    have hltx : W0.heap.size < W1.heap.size := (Array.getElem?_eq_some_iff.1 HX1).1
    clear hW1 hb1 z0 z1 y0 y1 y2 y3 y4
    cases hop : z_am kd with
    | true =>
     have hp0 := z_gb (.inl hop)
     have hIn := HII.out t' rest at' htm hnode (by rw [← HLf.out]; exact hop) HW1.out HD1.out
     rw [← HLf.out] at hIn
     have HIn := (show Hid _ from hIn)
     clear hIn
     go_wp2_with (first | (go_at_call 69; refine (z_ds _ _).mono ?_; rintro e W1 ⟨rfl, rfl⟩; rw [hp0]) | (go_at_call 71; refine (z_ao _ _).mono ?_; rintro e W1 ⟨rfl, rfl⟩; rw [hop]))
     refine (HIn.out _ v' (ps ++ qs) aoA capA HS2.out HAq.out (by simp; omega)).mono ?_
     rintro e W3 ⟨rfl, v3, rs, hrs, h4, hk4, hr4⟩
     rw [List.length_append] at hrs
     have hrs' : rs.map (·.1) = z_b2 (ps.length + qs.length) t' := hrs
     have h6 : rs.length = (z_b2 (ps.length + qs.length) t').length := by rw [← hrs']; simp
     have hrl : rs.length ≤ z_ai t' := by omega
     have HK3 : Hid (Wk q v.ownBlock w W3 ∧ RowTo w v v3) := ⟨(HK1.out.1.trans HK2.out HK1.out.2.or).trans hk4 HK1.out.2.or, HK1.out.2.trans hr4 (Nat.le_trans HK1.out.1.size HK2.out.size)⟩
     rw [List.append_assoc] at h4
     have HS3 : Hid (SkSt q base (some ⟨b, off, none⟩) cap ls W3 (at' + z_ai t') v3 (ps ++ (qs ++ rs))) := h4
     have HC2 : Hid (z_aM ps.length t = (qs ++ rs).map (·.1) ++ z_aM (ps.length + (qs ++ rs).length) (z_aO t')) := by
      show _ = _
      rw [HC1.out, HMK.out, ← hrs', List.map_append, List.append_assoc, List.length_append, Nat.add_assoc, List.length_map]
     have hm1 : Hid (skAt q W3 = at' + z_ai t') := HS3.out.skAt
     have hqr : (qs ++ rs).length = qs.length + rs.length := by simp
     clear hrs hrs' h4 hk4 hr4 h6
     go_wp2_with fail
     go_roundw
     case rel => exact ⟨z_aO t', at' + z_ai t', qs ++ rs, v3, HS3, HK3, HDr, HWr, by omega, by omega, HC2, by omega⟩
     case measure => rw [hm1.out, hm0.out]; omega
    | false =>
     obtain ⟨hpc, hc0, hc12⟩ := z_jc hrr hop hnc hn1
     obtain ⟨hnn, hns⟩ := z_kS hnode HW1.out (by rw [← HLf.out]; exact hop)
     have HNS : Hid (z_b2 (ps.length + qs.length) t' = [z_as (kd, dd) 0 0]) := by show _ = _; rw [hns, ← HLf.out]
     obtain ⟨cd, hcd⟩ : ∃ cd, cd = z_cg kd := ⟨_, rfl⟩
     have HCD : Hid (cd = z_cg kd) := hcd
     rw [← hcd] at hpc hc0 hc12
     rw [hnn] at HDr hln
     clear hcd hns hnl hrr
     go_wp2_with (go_at_call 69; refine (z_ds _ _).mono ?_; rintro e W1 ⟨rfl, rfl⟩; rw [hpc])
     go_region_held3 (fun wz => wz.cell? ⟨W0.heap.size, 0, none⟩ = some (.int .i64 kd) ∧ wz.cell? ⟨W0.heap.size, 1, none⟩ = some (.string dd.to) ∧ wz.cell? ⟨W0.heap.size, 2, none⟩ = some (.string dd.name) ∧ wz.cell? ⟨W0.heap.size, 3, none⟩ = some (.slice aoA dd.args.length capA) ∧ wz.cell? ⟨W0.heap.size, 4, none⟩ = some (.string dd.undo))
      (first | (go_keep; done) | exact HY2.out | exact HY3.out)
      (first
       | (refine z_dP rfl _ _ rfl W1.heap.size rfl (z_dY W1) _ _ dd.args rfl (HA1.out.later ((Below.refl _ _).alloc (Nat.le_refl _) _).drew) (by omega) ?_; intro uo uc W2 hu2 hg2; obtain ⟨HSa, HY2, HKa, HXa, HUa, HAp2, hsz2⟩ := z_hG HS2.out HX1 (z_di hg2) hu2; clear hu2 hg2)
       | (go_at_call 70; refine (z_cP q base (some ⟨b, off, none⟩) cap ls at' v' (ps ++ qs) ⟨cd, dd.to, dd.name, dd.args, dd.undo, 0, 0⟩ uo uc _ HSa.out (by simp; omega) HUa.out HAp2.out).mono ?_; rintro e W3 ⟨rfl, g3, vc3, h5, hk5, hr5⟩; obtain ⟨HS3, HY3, HK3, HX3⟩ := z_jS HK2.out HKa.out HSa.out HXa.out h5 hk5 hr5; clear h5 hk5 hr5))
     all_goals
      have u1 := HS3.out.c1
      have uf := HS3.out.fz 1
      have ult := HS3.out.lt
      have h9 := HS3.out.set1 (at' + 1)
      rw [e1.out, List.append_assoc] at h9
      have HS9 : Hid (SkSt q base (some ⟨b, off, none⟩) cap ls _ (at' + 1) _ (ps ++ (qs ++ [((⟨cd, dd.to, dd.name, dd.args, dd.undo, 0, 0⟩ : Stp), Value.slice uo dd.args.length uc)]))) := h9
      have HK9 : Hid (Wk q v.ownBlock w (W3.setCell ⟨q, 1, none⟩ (.int .i64 ((at' : Int) + 1))) ∧ RowTo w v (.slice (some ⟨g3, 0, none⟩) ((ps ++ qs).length + 1) vc3)) := ⟨(HK1.out.1.trans HK3.out.1 HK1.out.2.or).trans (Wk.of_set (row := v.ownBlock) 1 _) (.inl rfl), HK1.out.2.trans HK3.out.2 HK1.out.1.size⟩
      have HC2 : Hid (z_aM ps.length t = (qs ++ [((⟨cd, dd.to, dd.name, dd.args, dd.undo, 0, 0⟩ : Stp), Value.slice uo dd.args.length uc)]).map (·.1) ++ z_aM (ps.length + (qs ++ [((⟨cd, dd.to, dd.name, dd.args, dd.undo, 0, 0⟩ : Stp), Value.slice uo dd.args.length uc)]).length) (z_aO t')) := by
       show _ = _
       rw [HC1.out, HMK.out, HNS.out, List.map_append, List.append_assoc, List.length_append, HCD.out]; rfl
      have hm1 : Hid (skAt q (W3.setCell ⟨q, 1, none⟩ (.int .i64 ((at' : Int) + 1))) = at' + 1) := h9.skAt
      have hqr : (qs ++ [((⟨cd, dd.to, dd.name, dd.args, dd.undo, 0, 0⟩ : Stp), Value.slice uo dd.args.length uc)]).length = qs.length + 1 := by simp
      clear h9
      go_wp2_with fail
      go_roundw
      case rel => exact ⟨z_aO t', at' + 1, _, _, HS9, HK9, HDr, HWr, by omega, by omega, HC2, by omega⟩
      case measure => rw [hm1.out, hm0.out]; omega
theorem z_m3 (q base : Nat) (lo : Option Addr) (cap : Nat) (ls : List Ln) (hl : ls.length ≤ 60) (hl0 : 0 < ls.length) (hg : ∀ l ∈ ls, GoodL l) (hr : ∀ l ∈ ls, ∃ r, z_af l.1 r = some l.2) : ∀ n, SkIH n q base lo cap ls
 | 0 => z_k 0 q base lo cap ls hl hl0 hg hr fun t rest at_ ht hn _ _ _ => by
   have h := z_b7 t
   have hpos : 1 ≤ z_ai t := by cases t <;> simp [z_ai, z_aR] at hn ⊢
   exact absurd ht (by omega)
 | n + 1 => z_k (n + 1) q base lo cap ls hl hl0 hg hr fun t rest at_ ht hn ho hw hd => z_gt n q base lo cap ls hl hg (z_m3 q base lo cap ls hl hl0 hg hr n) t rest at_ ht hn ho hw hd
end
section
open Go.RowKit
def z_nL (w : World) (ls : List Ln) (e : Ending) (w' : World) : Prop :=
 ∃ (v : Value) (ok : Bool), e = .returned (.tuple #[v, .bool ok]) ∧ Below w.heap.size w w' ∧
  ((ok = false ∧ (∃ b, b ≠ 0 ∧ z_bV b ls) ∧ ∃ base, w.heap.size ≤ base ∧ z_dm base w' v []) ∨ (ok = true ∧ z_bV 0 ls ∧ ∃ l0 t ps base, ls = l0 :: t.flat ∧ t.wf ∧ ps.map (·.1) = z_aM 0 t ∧ w.heap.size ≤ base ∧ z_dm base w' v ps))
theorem z_g6 (base : Nat) (w : World) : z_dm base w (.slice none 0 0) [] := ⟨World.ownsRow_nil _ _ _ _, fun p hp => absurd hp (by simp), List.Pairwise.nil⟩
theorem Tryz.fieldCode (a b : Int) (w : World) : (Instr.field 43 (.agg #[.int .i64 a, .int .i64 b]) 1).run Tryz.prog w = .ok (.int .i64 b) w := by kernel_rfl
theorem z_hL (ao : Option Addr) (cap : Nat) (ls : List Ln) (w : World) (hcap : ls.length ≤ cap) (hl : ls.length ≤ 1048576) (hi : LinesAt w.heap.size w ao ls) (hz : ∀ l ∈ ls, LnSz l) (he : Env w) :
  Calls Tryz.prog 12 #[.slice ao ls.length cap] w (z_nL w ls) := by
 have HI : Hid (LinesAt w.heap.size w ao ls) := hi
 have HZ : Hid (∀ l ∈ ls, LnSz l) := hz
 have HE : Hid (Env w) := he
 clear hi hz he
 go_enter Tryz.func12, Tryz.ntmps12
 go_wp2_with fail
 refine (z_gC ao cap ls w hcap hl HI.out HZ.out HE.out).mono ?_
 rintro e W1 ⟨a, b, rfl, hb1, hC⟩
 have HB1 : Hid (Below w.heap.size w W1) := hb1
 have HC : Hid (z_bV b ls) := hC
 have hfd := Tryz.fieldCode
 cases hb : (b == 0) with
 | false =>
  have hbn : (b != 0) = true := by rw [bne, hb]; rfl
  have hb0 : b ≠ 0 := by simpa using hb
  have HBN : Hid (b ≠ 0) := hb0
  clear hC hb1 hb0
  go_wp2
  go_ret2
  exact ⟨_, _, rfl, HB1.out, .inl ⟨rfl, ⟨b, HBN.out, HC.out⟩, _, Nat.le_refl _, z_g6 _ _⟩⟩
 | true =>
  have hb0 : b = 0 := eq_of_beq hb
  subst hb0
  rcases hC with ⟨_, h60, hst, l0, t, hls, hw, hcm⟩ | ⟨hn, _⟩
  ·have HLS : Hid (ls = l0 :: t.flat) := hls
   have HW : Hid t.wf := hw
   have hl0 : 0 < ls.length := by rw [hls]; simp
   have hws := hb1.size
   have htl : t.flat.length ≤ 60 := by have := congrArg List.length hls; simp at this; omega
   obtain ⟨W2, hW2⟩ : ∃ W2, W2 = W1.alloc (.cells #[.slice none 0 0, .slice ao ls.length cap, .int .i64 1] 67) := ⟨_, rfl⟩
   have hb2 : Below W1.heap.size W1 W2 := by rw [hW2]; exact (Below.refl _ _).alloc (Nat.le_refl _) _
   have HB2 : Hid (Below w.heap.size w W2) := hb1.trans (hb2.mono hws)
   have hsz2 : W2.heap.size = W1.heap.size + 1 := by rw [hW2]; simp
   have HS : Hid (MkSt W1.heap.size (W1.heap.size + 1) ao cap ls W2 1 (.slice none 0 0) []) := by
    refine ⟨?_, z_g6 _ _, (HI.out.below HB2.out).mono hws, by omega, by omega⟩
    rw [hW2]; exact heap_alloc_new W1 _
   have HBk := (show Hid _ from z_mX W1.heap.size (W1.heap.size + 1) ao cap ls h60 hl0 HZ.out 60 t [] 1 htl hw (by rw [hls]; simp) (.inl rfl))
   have HWE : Hid (W1.alloc (.cells #[.slice none 0 0, .slice ao ls.length cap, .int .i64 1] 67) = W2) := hW2.symm
   clear hls hst hcm hw hW2 hb2 hb1 hsz2
   go_wp2_with fail
   rw [HWE.out]
   refine (HBk.out W2 _ [] HS.out (by simp)).mono ?_
   rintro e W3 ⟨rfl, v3, qs, hqs, h3, hk3, hr3⟩
   have HQ : Hid (qs.map (·.1) = z_aM 0 t) := hqs
   have HO : Hid (z_dm (W1.heap.size + 1) W3 v3 qs) := h3.own
   have hbq : Below W1.heap.size W2 W3 := hk3.below W1.heap.size (Nat.le_refl _) (Nat.le_of_lt HS.out.lt) (fun k e => by simp [Value.ownBlock] at e)
   have HB3 : Hid (Below w.heap.size w W3) := HB2.out.trans (hbq.mono hws)
   have c0 := h3.c0
   have hlt := h3.lt
   clear hqs h3 hk3 hr3 hbq
   go_wp2
   go_ret2
   exact ⟨_, _, rfl, HB3.out, .inr ⟨rfl, HC.out, l0, t, qs, _, HLS.out, HW.out, HQ.out, by omega, HO.out⟩⟩
  ·exact absurd rfl hn
theorem z_gN (ao : Option Addr) (cap : Nat) (ls : List Ln) (w : World) (hcap : ls.length ≤ cap) (hl : ls.length ≤ 1048576) (hi : LinesAt w.heap.size w ao ls) (hz : ∀ l ∈ ls, LnSz l) :
  Calls Tryz.prog 10 #[.slice ao ls.length cap] w (z_nL w ls) := by
 have HI : Hid (LinesAt w.heap.size w ao ls) := hi
 have HZ : Hid (∀ l ∈ ls, LnSz l) := hz
 clear hi hz
 go_enter Tryz.func10, Tryz.ntmps10
 go_wp2_with fail
 refine (z_fW ao cap ls w hcap hl HI.out HZ.out).mono ?_
 rintro e W1 ⟨a, b, rfl, hb1, hC⟩
 have HB1 : Hid (Below w.heap.size w W1) := hb1
 have HC : Hid (z_bV b ls) := hC
 have hfd := Tryz.fieldCode
 cases hb : (b == 0) with
 | false =>
  have hbn : (b != 0) = true := by rw [bne, hb]; rfl
  have hb0 : b ≠ 0 := by simpa using hb
  have HBN : Hid (b ≠ 0) := hb0
  clear hC hb1 hb0
  go_wp2
  go_ret2
  exact ⟨_, _, rfl, HB1.out.alloc HB1.out.size _, .inl ⟨rfl, ⟨b, HBN.out, HC.out⟩, W1.heap.size, HB1.out.size, World.ownsRow_made (e := 52) (size := 7) W1 #[] 0 (Nat.le_refl _) (by decide) rfl, fun p hp => absurd hp (by simp), List.Pairwise.nil⟩⟩
 | true =>
  have hb0 : b = 0 := eq_of_beq hb
  subst hb0
  rcases hC with ⟨_, h60, hst, l0, t, hls, hw, hcm⟩ | ⟨hn, _⟩
  ·have HLS : Hid (ls = l0 :: t.flat) := hls
   have HW : Hid t.wf := hw
   have hl0 : 0 < ls.length := by rw [hls]; simp
   have hws := hb1.size
   have htl : t.flat.length ≤ 60 := by have := congrArg List.length hls; simp at this; omega
   obtain ⟨W2, hW2⟩ : ∃ W2, W2 = W1.alloc (.cells #[.slice ao ls.length cap, .int .i64 1, .slice none 0 0] 60) := ⟨_, rfl⟩
   have hb2 : Below W1.heap.size W1 W2 := by rw [hW2]; exact (Below.refl _ _).alloc (Nat.le_refl _) _
   have HB2 : Hid (Below w.heap.size w W2) := hb1.trans (hb2.mono hws)
   have hsz2 : W2.heap.size = W1.heap.size + 1 := by rw [hW2]; simp
   have HS : Hid (SkSt W1.heap.size (W1.heap.size + 1) ao cap ls W2 1 (.slice none 0 0) []) := by
    refine ⟨?_, z_g6 _ _, (HI.out.below HB2.out).mono hws, by omega, by omega⟩
    rw [hW2]; exact heap_alloc_new W1 _
   have HBk := (show Hid _ from z_m3 W1.heap.size (W1.heap.size + 1) ao cap ls h60 hl0 (z_j0 HZ.out hst.2.1) (fun l hl => (z_h0 (hst.2.1 l hl)).2) 60 t [] 1 htl hw (by rw [hls]; simp) (.inl rfl))
   have HWE : Hid (W1.alloc (.cells #[.slice ao ls.length cap, .int .i64 1, .slice none 0 0] 60) = W2) := hW2.symm
   clear hls hst hcm hw hW2 hb2 hb1 hsz2
   go_wp2_with fail
   rw [HWE.out]
   refine (HBk.out W2 _ [] HS.out (by simp)).mono ?_
   rintro e W3 ⟨rfl, v3, qs, hqs, h3, hk3, hr3⟩
   have HQ : Hid (qs.map (·.1) = z_aM 0 t) := hqs
   have HO : Hid (z_dm (W1.heap.size + 1) W3 v3 qs) := h3.own
   have hbq : Below W1.heap.size W2 W3 := hk3.below W1.heap.size (Nat.le_refl _) (Nat.le_of_lt HS.out.lt) (fun k e => by simp [Value.ownBlock] at e)
   have HB3 : Hid (Below w.heap.size w W3) := HB2.out.trans (hbq.mono hws)
   have c2 := h3.c2
   have hlt := h3.lt
   clear hqs h3 hk3 hr3 hbq
   go_wp2
   go_ret2
   exact ⟨_, _, rfl, HB3.out, .inr ⟨rfl, HC.out, l0, t, qs, _, HLS.out, HW.out, HQ.out, by omega, HO.out⟩⟩
  ·exact absurd rfl hn
end
section
open Go.RowKit
def MkL (ls : List Ln) (ok : Bool) (ss : List Stp) : Prop :=
 (ok = false ∧ (∃ b, b ≠ 0 ∧ z_bV b ls) ∧ ss = []) ∨ (ok = true ∧ z_bV 0 ls ∧ ∃ l0 t, ls = l0 :: t.flat ∧ t.wf ∧ ss = z_aM 0 t)
theorem z_mP {ls : List Ln} {ok ok' : Bool} {ss ss' : List Stp} (h : MkL ls ok ss) (h' : MkL ls ok' ss') : ok = ok' ∧ ss = ss' := by
 rcases h with ⟨rfl, ⟨b, hb, hc⟩, rfl⟩ | ⟨rfl, hc, l0, t, e, hw, rfl⟩
 ·rcases h' with ⟨rfl, _, rfl⟩ | ⟨_, hc', _⟩
  ·exact ⟨rfl, rfl⟩
  ·exact absurd ((z_fD hc hc').2 rfl) hb
 ·rcases h' with ⟨_, ⟨b, hb, hc'⟩, _⟩ | ⟨rfl, _, l1, t', e', hw', rfl⟩
  ·exact absurd ((z_fD hc' hc).2 rfl) hb
  ·obtain ⟨_, rfl⟩ := z_j4 (e.symm.trans e') hw hw'
   exact ⟨rfl, rfl⟩
theorem z_lp {ls : List Ln} {ok : Bool} {ss : List Stp} (h : MkL ls ok ss) : ss.length ≤ 60 := by
 rcases h with ⟨_, _, rfl⟩ | ⟨_, hc, l0, t, e, hw, rfl⟩
 ·simp
 ·rcases hc with ⟨_, h60, _⟩ | ⟨hn, _⟩
  ·rw [z_at]
   have h1 := z_aT t hw
   have h2 := congrArg List.length e
   simp at h2; omega
  ·exact absurd rfl hn
theorem z_hZ {w w' : World} {ls : List Ln} {e : Ending} (h : z_nL w ls e w') : ∃ (v : Value) (ok : Bool) (ps : List (Stp × Value)) (base : Nat), e = .returned (.tuple #[v, .bool ok]) ∧ Below w.heap.size w w' ∧ MkL ls ok (ps.map (·.1)) ∧ w.heap.size ≤ base ∧ z_dm base w' v ps := by
 obtain ⟨v, ok, rfl, hb, h | h⟩ := h
 ·obtain ⟨rfl, hc, base, hbs, ho⟩ := h
  exact ⟨v, false, [], base, rfl, hb, .inl ⟨rfl, hc, rfl⟩, hbs, ho⟩
 ·obtain ⟨rfl, hc, l0, t, ps, base, e, hw, hm, hbs, ho⟩ := h
  exact ⟨v, true, ps, base, rfl, hb, .inr ⟨rfl, hc, l0, t, e, hw, hm⟩, hbs, ho⟩
end
section
set_option linter.unusedVariables false
end
section
open Go.RowKit
theorem z_e5 {base : Nat} {w : World} {v : Value} {ps : List (Ln × Value)} (h : z_nQ base w v ps) : ∃ ao cap, v = .slice ao ps.length cap ∧ ps.length ≤ cap ∧ LinesAt w.heap.size w ao (ps.map (·.1)) := by
 obtain ⟨ao, cap, rfl, hc⟩ := z_aq h.row
 refine ⟨ao, cap, rfl, hc, fun k hk => ?_⟩
 have hk' : k < ps.length := by simpa using hk
 rcases h.row.2 with ⟨_, h0⟩ | ⟨g, cap', cur, e, hb, hg, _⟩
 ·omega
 ·simp only [Value.slice.injEq] at e
  obtain ⟨rfl, _, rfl⟩ := e
  have hargs := h.args _ (List.getElem_mem hk')
  obtain ⟨bo, bc, e2, hbc, hs⟩ := StrsAt.of_owns hargs
  have hcell := fun j hj u hu => h.cell (fun _ _ => rfl) rfl k j hk' hj u hu
  refine ⟨g, 0, rfl, (h.row.lt g rfl).2, bo, bc, ?_, ?_, ?_, ?_, ?_, ?_, ?_⟩
  ·simpa [lnA] using hbc
  ·rw [Nat.zero_add]; simpa using hcell 0 (by decide) _ rfl
  ·rw [Nat.zero_add]; simpa using hcell 1 (by decide) _ rfl
  ·rw [Nat.zero_add]; simpa using hcell 2 (by decide) _ rfl
  ·rw [Nat.zero_add]; have := hcell 3 (by decide) _ rfl; rw [this]; simp only [List.getElem_map]; exact congrArg some e2
  ·rw [Nat.zero_add]; simpa using hcell 4 (by decide) _ rfl
  ·rw [List.getElem_map]; exact hs.mono (Nat.zero_le _) (Nat.le_refl _)
end
end Go.Proofs.YtlbjjbolbopfmaaGreatDoor
