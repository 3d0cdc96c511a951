import Derived.Test.YtlbjjbolbopfmaaGreatDoorJ38
import Derived.Test.YtlbjjbolbopfmaaGreatDoorJ36
import Derived.Deep.RegionLaw
import Derived.Deep.AppendLies
import Derived.Deep.RegionHeld3
namespace Go.Proofs.YtlbjjbolbopfmaaGreatDoor
set_option maxHeartbeats 4000000
set_option maxRecDepth 1000000
set_option linter.unusedVariables false
section
open Go.RowKit
def z_dz (ks : List ByteArray) (br : Bool) : Bl → Option (List ByteArray × Bool)
 | .nil => none
 | .plain _ _ => none
 | .one _ p _ _ => (z_al ks br true p).map fun _ => (ks, true)
 | .two l p _ q _ _ => if l.1 = 9 then z_mA (z_al ks true true p) (z_al ks true true q) (z_a5 p.flat q.flat) else z_hC (z_al ks br true p) (z_al ks br true q)
theorem z_l0 (ks : List ByteArray) (br live : Bool) (t : Bl) (hn : z_aR t = true) (ho : z_am (z_au t).1 = true) (hw : t.wf) :
  z_al ks br live t = if z_bk ks br live (z_au t) = true then (match z_dz ks br t with | none => none | some (k, c) => z_al k br c (z_aO t)) else none := by
 cases t with
 | nil => cases hn
 | plain l r => have := hw.1; rw [show (z_au (.plain l r)).1 = l.1 from rfl, this] at ho; cases ho
 | one l p e r =>
  by_cases hlo : z_bk ks br live l = true
  ·simp only [z_al, z_au, z_dz, z_aO, hlo, if_true]
   cases z_al ks br true p <;> rfl
  ·rw [z_al, if_neg hlo]; exact (if_neg hlo).symm
 | two l p m q e r =>
  by_cases hlo : z_bk ks br live l = true
  ·by_cases h9 : l.1 = 9
   ·have hb : (br || (l.1 == 9)) = true := by rw [h9]; simp
    simp only [z_al, z_au, z_dz, z_aO, hlo, if_true, hb, if_pos h9, z_mA]
    cases z_al ks true true p with
    | none => rfl
    | some x =>
     obtain ⟨k1, c1⟩ := x
     cases z_al ks true true q with
     | none => rfl
     | some y =>
      obtain ⟨k2, c2⟩ := y
      simp only
      cases z_a5 p.flat q.flat <;> rfl
   ·have hb : (br || (l.1 == 9)) = br := by rw [beq_eq_false_iff_ne.2 h9, Bool.or_false]
    simp only [z_al, z_au, z_dz, z_aO, hlo, if_true, hb, if_neg h9, z_hC]
    cases z_al ks br true p with
    | none => rfl
    | some x =>
     obtain ⟨k1, c1⟩ := x
     cases z_al ks br true q with
     | none => rfl
     | some y =>
      obtain ⟨k2, c2⟩ := y
      cases c1 <;> cases c2 <;> rfl
  ·rw [z_al, if_neg hlo]; exact (if_neg hlo).symm
theorem z_kM (ks : List ByteArray) (br live : Bool) (l : Ln) (r : Bl) : z_al ks br live (.plain l r) = if z_bk ks br live l = true then z_al (z_c5 ks l.2.to) br (!z_a1 l.1) r else none := by
 simp only [z_al]
def CkIH (n p : Nat) (lo : Option Addr) (cap : Nat) (ls : List Ln) : Prop :=
 ∀ (t : Bl) (rest : List Ln) (at_ : Nat) (br : Bool) (ks : List ByteArray), t.flat.length ≤ n → t.wf → ls.drop at_ = t.flat ++ rest → z_jq rest → ks.length + t.flat.length ≤ 1000 →
  z_d7 p lo cap ls at_ (at_ + t.flat.length) br ks (z_al ks br true t)
theorem z_c1 (ks : List ByteArray) (br live : Bool) (t : Bl) (h : t.flat.length ≤ 100) : NewK ks (z_al ks br live t) := by
 intro k c hh
 obtain ⟨g, rfl, hg⟩ := z_bM t ks br live k c hh
 have := z_g1 t.flat.length t (Nat.le_refl _) ks br live _ c hh
 exact ⟨g, rfl, hg, by simp at this; omega⟩
theorem CkInn.congr {p : Nat} {lo : Option Addr} {cap : Nat} {ls : List Ln} {at_ at2 at3 : Nat} {k : Int} {br : Bool} {ks : List ByteArray} {r r' : Option (List ByteArray × Bool)} (h : CkInn p lo cap ls at_ at2 k br ks r) (e : at2 = at3) (er : r = r') : CkInn p lo cap ls at_ at3 k br ks r' := by
 subst e er; exact h
structure GoodL (l : Ln) : Prop where
 sz : LnSz l
 good : GoodD l.1 l.2
 leaves : z_a1 l.1 = true → l.2.to = eS
theorem z_kp (n p : Nat) (lo : Option Addr) (cap : Nat) (ls : List Ln) (hl : ls.length ≤ 60) (hcap : ls.length ≤ cap) (hg : ∀ l ∈ ls, GoodL l) (IH : CkIH n p lo cap ls)
  (t : Bl) (rest : List Ln) (at_ : Nat) (br : Bool) (ks : List ByteArray) (ht : t.flat.length ≤ n + 1) (hn : z_aR t = true) (ho : z_am (z_au t).1 = true) (hw : t.wf) (hd : ls.drop at_ = t.flat ++ rest) (hk : ks.length + t.flat.length ≤ 1000) :
  CkInn p lo cap ls at_ (at_ + z_ai t) (z_au t).1 br ks (z_dz ks br t) := by
 have hfl : at_ + t.flat.length ≤ ls.length := by
  have h := congrArg List.length hd
  obtain ⟨hx, _⟩ := z_bX hd hn
  simp at h; omega
 cases t with
 | nil => cases hn
 | plain l r => have := hw.1; rw [show (z_au (.plain l r)).1 = l.1 from rfl, this] at ho; cases ho
 | one l p' e r =>
  have hd1 : ls.drop at_ = l :: (p'.flat ++ (e :: (r.flat ++ rest))) := by rw [hd]; simp [Bl.flat]
  obtain ⟨h1, h2, h3⟩ := z_a2 hd1
  have h4 := z_bB h3
  obtain ⟨h5, h6, _⟩ := z_a2 h4
  simp only [Bl.flat, List.length_cons, List.length_append] at ht hfl hk
  have hB := IH p' _ (at_ + 1) br ks (by omega) hw.2.2.2.1 h3 (.inr ⟨e, _, rfl, by rw [hw.2.2.1]; rfl⟩) (by omega)
  have h := z_l7 p lo cap ls at_ (at_ + 1 + p'.flat.length) l.1 br ks _ hl (by omega) h5 (by rw [h6]; exact hw.2.2.1) (beq_eq_false_iff_ne.2 hw.2.1) (by omega) (z_c1 _ _ _ _ (by omega)) hB
  exact h.congr (by simp only [z_ai]; omega) rfl
 | two l p' m q e r =>
  have hd1 : ls.drop at_ = l :: (p'.flat ++ (m :: (q.flat ++ (e :: (r.flat ++ rest))))) := by rw [hd]; simp [Bl.flat]
  obtain ⟨h1, h2, h3⟩ := z_a2 hd1
  have h4 := z_bB h3
  obtain ⟨h5, h6, h7⟩ := z_a2 h4
  have h8 := z_bB h7
  obtain ⟨h9, h10, _⟩ := z_a2 h8
  simp only [Bl.flat, List.length_cons, List.length_append] at ht hfl hk
  have hmc : z_ae m.1 = true := by rcases hw.1 with ⟨_, h⟩ | ⟨_, h⟩ <;> rw [h] <;> rfl
  have hec : z_ae e.1 = true := by rw [hw.2.1]; rfl
  have hm11 : (m.1 == 11) = false := by rcases hw.1 with ⟨_, h⟩ | ⟨_, h⟩ <;> rw [h] <;> rfl
  rcases hw.1 with ⟨hch, hm7⟩ | ⟨hl9, hm10⟩
  ·have hn9 : l.1 ≠ 9 := fun h => by rw [h] at hch; cases hch
   have hn8 : l.1 ≠ 8 := fun h => by rw [h] at hch; cases hch
   have hB1 := IH p' _ (at_ + 1) br ks (by omega) hw.2.2.1 h3 (.inr ⟨m, _, rfl, hmc⟩) (by omega)
   have hB2 := IH q _ (at_ + 1 + p'.flat.length + 1) br ks (by omega) hw.2.2.2.1 h7 (.inr ⟨e, _, rfl, hec⟩) (by omega)
   have h := z_mm p lo cap ls at_ (at_ + 1 + p'.flat.length) (at_ + 1 + p'.flat.length + 1 + q.flat.length) l.1 br ks _ _ hl (by omega) (by omega) h9 (by rw [h6]; exact hm11) (beq_eq_false_iff_ne.2 hn8) (beq_eq_false_iff_ne.2 hn9) (by omega) (z_c1 _ _ _ _ (by omega)) (z_c1 _ _ _ _ (by omega)) hB1 hB2
   exact h.congr (by simp only [z_ai]; omega) (by simp only [z_dz, if_neg hn9])
  ·have hB1 := IH p' _ (at_ + 1) true ks (by omega) hw.2.2.1 h3 (.inr ⟨m, _, rfl, hmc⟩) (by omega)
   have hB2 := IH q _ (at_ + 1 + p'.flat.length + 1) true ks (by omega) hw.2.2.2.1 h7 (.inr ⟨e, _, rfl, hec⟩) (by omega)
   have hX : (ls.drop at_).take (at_ + 1 + p'.flat.length - at_) = l :: p'.flat := by
    rw [hd1, show at_ + 1 + p'.flat.length - at_ = (l :: p'.flat).length by simp; omega, show l :: (p'.flat ++ (m :: (q.flat ++ (e :: (r.flat ++ rest))))) = (l :: p'.flat) ++ (m :: (q.flat ++ (e :: (r.flat ++ rest)))) from rfl, List.take_left]
   have hY : (ls.drop (at_ + 1 + p'.flat.length)).take (at_ + 1 + p'.flat.length + 1 + q.flat.length - (at_ + 1 + p'.flat.length)) = m :: q.flat := by
    rw [h4, show at_ + 1 + p'.flat.length + 1 + q.flat.length - (at_ + 1 + p'.flat.length) = (m :: q.flat).length by simp; omega, show m :: (q.flat ++ (e :: (r.flat ++ rest))) = (m :: q.flat) ++ (e :: (r.flat ++ rest)) from rfl, List.take_left]
   have hinX : ∀ x ∈ p'.flat, x ∈ ls := fun x hx => List.mem_of_mem_drop (by rw [hd1]; simp [hx] : x ∈ ls.drop at_)
   have hinY : ∀ x ∈ q.flat, x ∈ ls := fun x hx => List.mem_of_mem_drop (by rw [hd1]; simp [hx] : x ∈ ls.drop at_)
   have hlin : l ∈ ls := List.mem_of_mem_drop (by rw [hd1]; simp : l ∈ ls.drop at_)
   have hmin : m ∈ ls := List.mem_of_mem_drop (by rw [hd1]; simp : m ∈ ls.drop at_)
   have hlb := (hg l hlin).good.bare (.inl hl9)
   have hmb := (hg m hmin).good.bare (.inr hmc)
   have hcl : decide (0 < z_gh (l :: p'.flat) (m :: q.flat)) = z_a5 p'.flat q.flat := by
    have h := z_lg (l := l) (m := m) (xs := p'.flat) (ys := q.flat) ⟨hlb.1, hlb.2.2.1, by rw [hl9]; decide⟩ ⟨hmb.1, hmb.2.2.1, by rw [hm10]; decide⟩ (fun a ha => (hg a (hinX a ha)).good.to) (fun a ha => (hg a (hinY a ha)).good.to)
    cases hc : z_a5 p'.flat q.flat with
    | true => exact decide_eq_true (h.2 hc)
    | false => exact decide_eq_false (fun hp => by rw [h.1 hp] at hc; cases hc)
   have h := z_kD p lo cap ls at_ (at_ + 1 + p'.flat.length) (at_ + 1 + p'.flat.length + 1 + q.flat.length) br ks _ _ _ _ _ hl hcap (by omega) (by omega) h9 (by rw [h6]; exact hm11) hX hY hcl (fun x hx => (hg x hx).sz) (fun x hx => by have := (hg x hx).good.args3; omega) (by omega) (z_c1 _ _ _ _ (by omega)) (z_c1 _ _ _ _ (by omega)) hB1 hB2
   rw [show (z_au (.two l p' m q e r)).1 = 9 from hl9]
   exact h.congr (by simp only [z_ai]; omega) (by simp only [z_dz, if_pos hl9])
end
section
open Go.RowKit
structure SkSt (q base : Nat) (lo : Option Addr) (cap : Nat) (ls : List Ln) (w : World) (at_ : Nat) (v : Value) (ps : List (Stp × Value)) : Prop where
 obj : w.heap[q]? = some (.cells #[.slice lo ls.length cap, .int .i64 at_, v] 60 (0, 0))
 own : z_dm base w v ps
 lines : LinesAt q w lo ls
 qb : q < base
 bw : base ≤ w.heap.size
section
variable {q base : Nat} {lo : Option Addr} {cap : Nat} {ls : List Ln} {w w' : World} {at_ : Nat} {v v' : Value} {ps : List (Stp × Value)}
theorem SkSt.lt (h : SkSt q base lo cap ls w at_ v ps) : q < w.heap.size := (Array.getElem?_eq_some_iff.1 h.obj).1
theorem SkSt.c0 (h : SkSt q base lo cap ls w at_ v ps) : w.cell? ⟨q, 0, none⟩ = some (.slice lo ls.length cap) := by rw [cell_of_row _ _ 0 _ _ _ h.obj]; rfl
theorem SkSt.c1 (h : SkSt q base lo cap ls w at_ v ps) : w.cell? ⟨q, 1, none⟩ = some (.int .i64 at_) := by rw [cell_of_row _ _ 1 _ _ _ h.obj]; rfl
theorem SkSt.c2 (h : SkSt q base lo cap ls w at_ v ps) : w.cell? ⟨q, 2, none⟩ = some v := by rw [cell_of_row _ _ 2 _ _ _ h.obj]; rfl
theorem SkSt.fz (h : SkSt q base lo cap ls w at_ v ps) (j : Nat) : w.frozen? ⟨q, j, none⟩ = false := frozen_of_row _ _ j _ _ h.obj
theorem SkSt.row_lt (h : SkSt q base lo cap ls w at_ v ps) {k : Nat} (hk : v.ownBlock = some k) : base ≤ k ∧ k < w.heap.size := h.own.row.lt k hk
theorem SkSt.row_ne (h : SkSt q base lo cap ls w at_ v ps) {p : Stp × Value} (hp : p ∈ ps) {k : Nat} (hk : p.2.ownBlock = some k) : v.ownBlock ≠ some k := fun e => z_cD h.own.row (h.own.args p hp) (by decide) k e hk
theorem SkSt.below (h : SkSt q base lo cap ls w at_ v ps) (hb : Below w.heap.size w w') : SkSt q base lo cap ls w' at_ v ps :=
 ⟨(hb.block q h.lt).trans h.obj, h.own.below hb, h.lines.below (hb.mono (Nat.le_of_lt h.lt)), h.qb, Nat.le_trans h.bw hb.size⟩
theorem SkSt.linesW (h : SkSt q base lo cap ls w at_ v ps) : LinesAt w.heap.size w lo ls := h.lines.mono (Nat.le_of_lt h.lt)
theorem SkSt.belowq (h : SkSt q base lo cap ls w at_ v ps) (hk : Wk q v.ownBlock w w') : Below q w w' :=
 hk.below q (Nat.le_refl _) (Nat.le_of_lt h.lt) fun k e => by have := (h.row_lt e).1; have := h.qb; omega
theorem SkSt.set1 (h : SkSt q base lo cap ls w at_ v ps) (n : Nat) : SkSt q base lo cap ls (w.setCell ⟨q, 1, none⟩ (.int .i64 n)) n v ps :=
 ⟨heap_setCell_same w q 1 _ _ _ h.obj, h.own.keep fun k hk => Below.heap_setCell w _ _ k (fun e => by have h1 : k = q := e; have := (h.own.lt hk).1; have := h.qb; omega), h.lines.below ((Below.refl q w).setCell (p := ⟨q, 1, none⟩) (Nat.le_refl q) _), h.qb, by simpa [World.setCell] using h.bw⟩
theorem SkSt.other (hm : SkSt q base lo cap ls w at_ v ps) {k : Nat} {cs : Array Value} {t : TypeId} {f : Nat × Nat} (hk : w.heap[k]? = some (.cells cs t f)) (h1 : t ≠ 60) (h2 : t ≠ 52) : k < w.heap.size ∧ k ≠ q ∧ v.ownBlock ≠ some k := by
 refine ⟨(Array.getElem?_eq_some_iff.1 hk).1, fun e => ?_, fun e => ?_⟩
 ·subst e
  have h := hm.obj
  rw [hk] at h
  simp at h
  exact h1 h.2.1
 ·rcases hm.own.row.2 with ⟨rfl, _⟩ | ⟨g, vc, cur, rfl, _, hg, _⟩
  ·simp [Value.ownBlock] at e
  ·simp [Value.ownBlock] at e
   subst e
   rw [hk] at hg
   simp at hg
   exact h2 hg.2.1
theorem LBox.keepS {p : Nat} {l : Ln} {ao : Option Addr} {c : Nat} (h : LBox w p l ao c) (hm : SkSt q base lo cap ls w at_ v ps) (hk : Wk q v.ownBlock w w') : LBox w' p l ao c := by
 obtain ⟨h1, h2, h3⟩ := hm.other h (by decide) (by decide)
 exact (hk.block p h1 h2 (fun e => h3 e.symm)).trans h
theorem z_ff {x : Stp × Value} {qs : List (Stp × Value)} {g vc n : Nat} (h : SkSt q base lo cap ls w at_ (.slice (some ⟨g, 0, none⟩) n vc) (ps ++ x :: qs)) (j : Nat) (hj : j < 7) (y : Value) (s : Stp) (hs : stC s x.2 = (stC x.1 x.2).set j y) (ha : s.args = x.1.args) :
  SkSt q base lo cap ls (w.setCell ⟨g, ps.length * 7 + j, none⟩ y) at_ (.slice (some ⟨g, 0, none⟩) n vc) (ps ++ (s, x.2) :: qs) ∧ Wk q (Value.slice (some ⟨g, 0, none⟩) n vc).ownBlock w (w.setCell ⟨g, ps.length * 7 + j, none⟩ y) := by
 obtain ⟨ao, cap', e, _⟩ := z_aq h.own.row
 simp only [Value.slice.injEq] at e
 obtain ⟨_, hn, _⟩ := e
 subst hn
 have hi : ps.length < (ps ++ x :: qs).length := by simp
 have hx : (ps ++ x :: qs)[ps.length] = x := z_jd ps qs x hi
 have hg := h.row_lt (k := g) rfl
 have hqb := h.qb
 have hgr : w.grownBy (w.setCell ⟨g, ps.length * 7 + j, none⟩ y) (some g) := z_aj g _ _
 have hk : Wk q (Value.slice (some ⟨g, 0, none⟩) (ps ++ x :: qs).length vc).ownBlock w (w.setCell ⟨g, ps.length * 7 + j, none⟩ y) := Wk.of_grown hgr
 have hself : (ps ++ x :: qs).set ps.length (ps ++ x :: qs)[ps.length] = ps ++ x :: qs := by rw [hx, z_gX]
 have hrow : w.ownsRow base 52 7 (.slice (some ⟨g, 0, none⟩) (ps ++ x :: qs).length vc) (ps ++ x :: qs).length (((ps ++ x :: qs).set ps.length (ps ++ x :: qs)[ps.length]).flatMap stF') := by
  rw [hself]; exact h.own.row
 have hrow2 := z_lD (q' := (s, x.2)) z_hw hrow hi j hj y (by show stC s x.2 = _; rw [hx]; exact hs)
 have hne : x.2.ownBlock ≠ some g := fun e => h.row_ne (p := x) (by simp) e rfl
 have hown := h.own.step (by decide) hi (q := (s, x.2)) (by rw [hx]) hrow2 (by
  have h2 := z_ad (j := ps.length * 7 + j) (h.own.args x (by simp)) hne y
  show World.ownsRow _ _ _ _ _ _ _
  unfold stA at h2 ⊢
  rw [ha]; exact h2) (Inn.of_grown hgr fun k e => .inl e)
 rw [z_gX] at hown
 have el : (ps ++ (s, x.2) :: qs).length = (ps ++ x :: qs).length := by simp
 refine ⟨⟨(hgr.block q h.lt (by simp; omega)).trans h.obj, ?_, h.lines.below (h.belowq hk), hqb, Nat.le_trans h.bw hgr.size⟩, hk⟩
 exact hown
end
end
section
open Go.RowKit
theorem z_n0 {q base : Nat} {lo : Option Addr} {cap : Nat} {ls : List Ln} {at_ : Nat} {v : Value} {ps : List (Stp × Value)} {w w3 : World} {o : Obj} (h : SkSt q base lo cap ls w at_ v ps) (hg : (w.alloc o).drew.grownBy w3 v.ownBlock) :
  w3.heap[q]? = w.heap[q]? ∧ (∀ j, w3.frozen? ⟨q, j, none⟩ = false) ∧ w3.cell? ⟨q, 2, none⟩ = some v := by
 have hne : some q ≠ v.ownBlock := fun e => by have := (h.row_lt e.symm).1; have := h.qb; omega
 have hb : Below w.heap.size w (w.alloc o).drew := ((Below.refl _ _).alloc (Nat.le_refl _) _).drew
 have h1 : w3.heap[q]? = w.heap[q]? := (hg.block q (by have := h.lt; simp; omega) hne).trans (hb.block q h.lt)
 exact ⟨h1, fun j => (World.frozen?_of_block (a := ⟨q, j, none⟩) h1).trans (h.fz j), (World.cell?_of_block (a := ⟨q, 2, none⟩) h1).trans h.c2⟩
theorem z_nW {q base : Nat} {lo : Option Addr} {cap : Nat} {ls : List Ln} {at_ : Nat} {v u : Value} {ps : List (Stp × Value)} {s : Stp} {w w3 : World} {o : Obj} {g c : Nat} (h : SkSt q base lo cap ls w at_ v ps) (hu : w.ownsRow base 9 1 u s.args.length (strCells s.args)) (hap : ∀ p ∈ ps, ∀ k, p.2.ownBlock = some k → u.ownBlock ≠ some k)
  (hown : w3.ownsRow base 52 7 (.slice (some ⟨g, 0, none⟩) (ps.length + 1) c) (ps.length + 1) ((ps.flatMap fun p => stC p.1 p.2) ++ stC s u)) (hg : (w.alloc o).drew.grownBy w3 v.ownBlock) (hat : v.ownBlock = some g ∨ g = w.heap.size + 1) :
  SkSt q base lo cap ls (w3.setCell ⟨q, 2, none⟩ (.slice (some ⟨g, 0, none⟩) (ps.length + 1) c)) at_ (.slice (some ⟨g, 0, none⟩) (ps.length + 1) c) (ps ++ [(s, u)]) ∧ Wk q v.ownBlock w (w3.setCell ⟨q, 2, none⟩ (.slice (some ⟨g, 0, none⟩) (ps.length + 1) c)) ∧ RowTo w v (.slice (some ⟨g, 0, none⟩) (ps.length + 1) c) := by
 have hb : Below w.heap.size w (w.alloc o).drew := ((Below.refl _ _).alloc (Nat.le_refl _) _).drew
 obtain ⟨hq3, _, _⟩ := z_n0 h hg
 have hgb : base ≤ g := (hown.lt g rfl).1
 have hqb := h.qb
 have hk3 : Wk q v.ownBlock w w3 := (Wk.of_below (row := v.ownBlock) hb).trans (Wk.of_grown hg) (.inl rfl)
 have hk : Wk q v.ownBlock w (w3.setCell ⟨q, 2, none⟩ (.slice (some ⟨g, 0, none⟩) (ps.length + 1) c)) := hk3.trans (Wk.of_set (row := v.ownBlock) 2 _) (.inl rfl)
 have far : ∀ (n : Nat) (x : Value) (xs : List Value), w.ownsRow base 9 1 x n xs → (w3.setCell ⟨q, 2, none⟩ (.slice (some ⟨g, 0, none⟩) (ps.length + 1) c)).ownsRow base 9 1 x n xs := fun n x xs hx => by
  refine z_ad (z_b9 hx fun k hk' => hk3.block k (hx.lt k hk').2 ?_ ?_) (fun e => by have := (hx.lt q e).1; omega) _
  ·have := (hx.lt k hk').1; omega
  ·intro e; exact z_cD h.own.row hx (by decide) k e.symm hk'
 refine ⟨⟨?_, ⟨?_, fun p hp => ?_, ?_⟩, h.lines.below (h.belowq hk), hqb, Nat.le_trans h.bw hk.size⟩, hk, ?_⟩
 ·exact heap_setCell_same w3 q 2 _ _ _ (hq3.trans h.obj)
 ·have h1 := z_ad (g := q) (j := 2) hown (by simp [Value.ownBlock]; omega) (.slice (some ⟨g, 0, none⟩) (ps.length + 1) c)
  have e : ((ps ++ [(s, u)]).flatMap fun p : Stp × Value => stC p.1 p.2) = (ps.flatMap fun p => stC p.1 p.2) ++ stC s u := by rw [List.flatMap_append]; simp
  rw [List.length_append, e]; exact h1
 ·rcases List.mem_append.1 hp with hp | hp
  ·exact far _ _ _ (h.own.args p hp)
  ·have : p = (s, u) := by simpa using hp
   subst this
   exact far _ _ _ hu
 ·exact z_ec h.own.apart fun p hp k hk' => hap p hp k hk'
 ·rcases hat with e | e
  ·exact .inl (by rw [e]; rfl)
  ·exact .inr fun k hk' => by
    have : g = k := by simpa [Value.ownBlock] using hk'
    omega
def z_n8 (q base : Nat) (lo : Option Addr) (cap : Nat) (ls : List Ln) (at_ : Nat) (v : Value) (w : World) (ps : List (Stp × Value)) (s : Stp) (u : Value) (e : Ending) (w' : World) : Prop :=
 e = .returned (.int .i64 ps.length) ∧ ∃ (g vc : Nat), SkSt q base lo cap ls w' at_ (.slice (some ⟨g, 0, none⟩) (ps.length + 1) vc) (ps ++ [(s, u)]) ∧ Wk q v.ownBlock w w' ∧ RowTo w v (.slice (some ⟨g, 0, none⟩) (ps.length + 1) vc)
theorem z_cP (q base : Nat) (lo : Option Addr) (cap : Nat) (ls : List Ln) (at_ : Nat) (v : Value) (ps : List (Stp × Value)) (s : Stp) (uo : Option Addr) (uc : Nat) (w : World) (h : SkSt q base lo cap ls w at_ v ps) (hl : ps.length ≤ 100000)
  (hu : w.ownsRow base 9 1 (.slice uo s.args.length uc) s.args.length (strCells s.args)) (hap : ∀ p ∈ ps, ∀ k, p.2.ownBlock = some k → (Value.slice uo s.args.length uc).ownBlock ≠ some k) :
  Calls Tryz.prog 70 #[.pointer (some ⟨q, 0, none⟩), .agg #[.int .i64 s.code, .string s.to, .string s.name, .slice uo s.args.length uc, .string s.undo, .int .i64 s.a, .int .i64 s.b]] w (z_n8 q base lo cap ls at_ v w ps s (.slice uo s.args.length uc)) := by
 obtain ⟨i0, hi0, hz0, hz1, hz2⟩ := info_parts Tryz.infoSt
 obtain ⟨vo, vc, rfl, hvc⟩ := z_aq h.own.row
 obtain ⟨sc, st, sn, sa, su, fa, fb⟩ := s
 have HM : Hid (SkSt q base lo cap ls w at_ (.slice vo ps.length vc) ps) := h
 have HAp : Hid (∀ p ∈ ps, ∀ k, p.2.ownBlock = some k → (Value.slice uo sa.length uc).ownBlock ≠ some k) := hap
 have hq := h.lt
 have hqb := h.qb
 have hbw := h.bw
 simp only at hu ⊢
 obtain ⟨W1, hW1⟩ : ∃ W1, W1 = w.alloc (.cells #[.int .i64 sc, .string st, .string sn, .slice uo sa.length uc, .string su, .int .i64 fa, .int .i64 fb] 52) := ⟨_, rfl⟩
 have hb1 : Below w.heap.size w W1 := by rw [hW1]; exact (Below.refl _ _).alloc (Nat.le_refl _) _
 have hsz1 : W1.heap.size = w.heap.size + 1 := by rw [hW1]; simp
 have y0 : W1.cell? ⟨w.heap.size, 0, none⟩ = some (.int .i64 sc) := by rw [hW1]; simp [go_sem]
 have y1 : W1.cell? ⟨w.heap.size, 1, none⟩ = some (.string st) := by rw [hW1]; simp [go_sem]
 have y2 : W1.cell? ⟨w.heap.size, 2, none⟩ = some (.string sn) := by rw [hW1]; simp [go_sem]
 have y3 : W1.cell? ⟨w.heap.size, 3, none⟩ = some (.slice uo sa.length uc) := by rw [hW1]; simp [go_sem]
 have y4 : W1.cell? ⟨w.heap.size, 4, none⟩ = some (.string su) := by rw [hW1]; simp [go_sem]
 have y5 : W1.cell? ⟨w.heap.size, 5, none⟩ = some (.int .i64 fa) := by rw [hW1]; simp [go_sem]
 have y6 : W1.cell? ⟨w.heap.size, 6, none⟩ = some (.int .i64 fb) := by rw [hW1]; simp [go_sem]
 have HM1 : Hid (SkSt q base lo cap ls W1 at_ (.slice vo ps.length vc) ps) := HM.out.below hb1
 have HU1 : Hid (W1.ownsRow base 9 1 (.slice uo sa.length uc) sa.length (strCells sa)) := z_ax hu hb1
 have HB1 : Hid (Below w.heap.size w W1) := hb1
 have HW1 : Hid (w.alloc (.cells #[.int .i64 sc, .string st, .string sn, .slice uo sa.length uc, .string su, .int .i64 fa, .int .i64 fb] 52) = W1) := hW1.symm
 have q2 := HM1.out.c2
 have g2 := HM1.out.fz
 have hlt1 : q < W1.heap.size := by omega
 have hb0 : base ≤ W1.heap.size := by omega
 have ht0 : w.heap.size < W1.heap.size := by omega
 clear hW1 hb1 h hu hap hsz1
 go_enter Tryz.func70, Tryz.ntmps70
 go_wp2_with fail
 rw [HW1.out]
 go_region_law (refine step_append_lies _ (by rfl) _ _ _ (by rfl) base 52 i0 _ 7 96 Tryz.underlying24 hi0 hz0 hz1 hz2 rfl (by omega) (.slice vo ps.length vc) ps.length _ (by rfl) ((HM1.out.own.row.alloc _).drew) ⟨W1.heap.size, 0, none⟩ 1 1 [.int .i64 sc, .string st, .string sn, .slice uo sa.length uc, .string su, .int .i64 fa, .int .i64 fb] (by rfl) (by rfl) (World.news_of_block (cs := #[.int .i64 sc, .string st, .string sn, .slice uo sa.length uc, .string su, .int .i64 fa, .int .i64 fb]) (t := 52) (fr := (0, 0)) (heap_alloc_new W1 _)) (by simp [Value.oneCell']) (by omega) (by unfold maxLen; omega) (by omega) (by simp; omega) (W1.heap.size + 1) (by simp) ?_; intro gg c3 w3 hown3 hgrow hat hlt3; obtain ⟨hq3, hf3, hc3⟩ := z_n0 HM1.out hgrow)
 all_goals
  have HF : Hid (SkSt q base lo cap ls (w3.setCell ⟨q, 2, none⟩ (.slice (some ⟨gg, 0, none⟩) (ps.length + 1) c3)) at_ (.slice (some ⟨gg, 0, none⟩) (ps.length + 1) c3) (ps ++ [(⟨sc, st, sn, sa, su, fa, fb⟩, .slice uo sa.length uc)]) ∧ Wk q (Value.slice vo ps.length vc).ownBlock W1 (w3.setCell ⟨q, 2, none⟩ (.slice (some ⟨gg, 0, none⟩) (ps.length + 1) c3)) ∧ RowTo W1 (.slice vo ps.length vc) (.slice (some ⟨gg, 0, none⟩) (ps.length + 1) c3)) := z_nW (s := ⟨sc, st, sn, sa, su, fa, fb⟩) HM1.out HU1.out HAp.out hown3 hgrow hat
  clear hown3 hgrow hat
  go_wp2
  go_ret
  exact ⟨rfl, gg, c3, HF.out.1, (Wk.of_below (row := (Value.slice vo ps.length vc).ownBlock) HB1.out).trans HF.out.2.1 (.inl rfl), RowTo.refl.trans HF.out.2.2 HB1.out.size⟩
end
section
open Go.RowKit
def z_h3 (k : Int) : Int := if k = 2 then 1 else if k = 3 then 2 else if k = 4 then 3 else if k = 5 then 4 else if k = 12 then 10 else if k = 13 then 11 else if k = 15 then 12 else 0
theorem z_ds (k : Int) (w : World) : Calls Tryz.prog 69 #[.int .i64 k] w fun e w' => e = .returned (.int .i64 (z_h3 k)) ∧ w' = w := by
 by_cases h2 : k = 2
 ·subst h2; go_enter Tryz.func69, Tryz.ntmps69; go_wp2; go_ret; exact ⟨rfl, rfl⟩
 by_cases h3 : k = 3
 ·subst h3; go_enter Tryz.func69, Tryz.ntmps69; go_wp2; go_ret; exact ⟨rfl, rfl⟩
 by_cases h4 : k = 4
 ·subst h4; go_enter Tryz.func69, Tryz.ntmps69; go_wp2; go_ret; exact ⟨rfl, rfl⟩
 by_cases h5 : k = 5
 ·subst h5; go_enter Tryz.func69, Tryz.ntmps69; go_wp2; go_ret; exact ⟨rfl, rfl⟩
 by_cases h12 : k = 12
 ·subst h12; go_enter Tryz.func69, Tryz.ntmps69; go_wp2; go_ret; exact ⟨rfl, rfl⟩
 by_cases h13 : k = 13
 ·subst h13; go_enter Tryz.func69, Tryz.ntmps69; go_wp2; go_ret; exact ⟨rfl, rfl⟩
 by_cases h15 : k = 15
 ·subst h15; go_enter Tryz.func69, Tryz.ntmps69; go_wp2; go_ret; exact ⟨rfl, rfl⟩
 have HN : Hid (z_h3 k = 0) := by simp [Hid, z_h3, h2, h3, h4, h5, h12, h13, h15]
 have b2 : (k == 2) = false := beq_eq_false_iff_ne.2 h2
 have b3 : (k == 3) = false := beq_eq_false_iff_ne.2 h3
 have b4 : (k == 4) = false := beq_eq_false_iff_ne.2 h4
 have b5 : (k == 5) = false := beq_eq_false_iff_ne.2 h5
 have b12 : (k == 12) = false := beq_eq_false_iff_ne.2 h12
 have b13 : (k == 13) = false := beq_eq_false_iff_ne.2 h13
 have b15 : (k == 15) = false := beq_eq_false_iff_ne.2 h15
 clear h2 h3 h4 h5 h12 h13 h15
 go_enter Tryz.func69, Tryz.ntmps69
 go_wp2
 go_ret
 exact ⟨by rw [HN.out] <;> rfl, rfl⟩
theorem z_dY (W : World) : ((W.alloc (.cells #[] 9)).drew).ownsRow W.heap.size 9 1 (.slice (some ⟨W.heap.size, 0, none⟩) 0 0) 0 [] :=
 (World.ownsRow_made W #[] 0 (Nat.le_refl _) (by decide) rfl).drew
section
variable {q base : Nat} {lo : Option Addr} {cap : Nat} {ls : List Ln} {w w' : World} {at_ : Nat} {v : Value} {ps : List (Stp × Value)}
theorem z_hG {p : Nat} {l : Ln} {ao uo : Option Addr} {c uc : Nat} (hm : SkSt q base lo cap ls w at_ v ps) (hx : LBox w p l ao c) (hb : Below w.heap.size w w') (hu : w'.ownsRow w.heap.size 9 1 (.slice uo l.2.args.length uc) l.2.args.length (strCells l.2.args)) :
  Hid (SkSt q base lo cap ls w' at_ v ps) ∧ Hid (w'.cell? ⟨p, 0, none⟩ = some (.int .i64 l.1) ∧ w'.cell? ⟨p, 1, none⟩ = some (.string l.2.to) ∧ w'.cell? ⟨p, 2, none⟩ = some (.string l.2.name) ∧ w'.cell? ⟨p, 3, none⟩ = some (.slice ao l.2.args.length c) ∧ w'.cell? ⟨p, 4, none⟩ = some (.string l.2.undo)) ∧ Hid (Wk q v.ownBlock w w') ∧ Hid (LBox w' p l ao c)
  ∧ Hid (w'.ownsRow base 9 1 (.slice uo l.2.args.length uc) l.2.args.length (strCells l.2.args)) ∧ Hid (∀ x ∈ ps, ∀ k, x.2.ownBlock = some k → (Value.slice uo l.2.args.length uc).ownBlock ≠ some k) ∧ w.heap.size ≤ w'.heap.size := by
 have hx' := hx.below hb
 refine ⟨hm.below hb, hx'.cells, Wk.of_below hb, hx', z_bh hu hm.bw, fun x hx k hk e => ?_, hb.size⟩
 have h1 := ((hm.own.args x hx).lt k hk).2
 have h2 := (hu.lt k e).1
 exact absurd h1 (Nat.not_lt.2 h2)
theorem z_jS {p g vc : Nat} {l : Ln} {ao : Option Addr} {c : Nat} {w0 w2 w3 : World} {e : List (Stp × Value)} (hk1 : Wk q v.ownBlock w0 w) (hk2 : Wk q v.ownBlock w w2) (hs2 : SkSt q base lo cap ls w2 at_ v ps) (hx : LBox w2 p l ao c) (h3 : SkSt q base lo cap ls w3 at_ (.slice (some ⟨g, 0, none⟩) (ps.length + 1) vc) e) (hk3 : Wk q v.ownBlock w2 w3) (hr3 : RowTo w2 v (.slice (some ⟨g, 0, none⟩) (ps.length + 1) vc)) :
  Hid (SkSt q base lo cap ls w3 at_ (.slice (some ⟨g, 0, none⟩) (ps.length + 1) vc) e) ∧ Hid (w3.cell? ⟨p, 0, none⟩ = some (.int .i64 l.1) ∧ w3.cell? ⟨p, 1, none⟩ = some (.string l.2.to) ∧ w3.cell? ⟨p, 2, none⟩ = some (.string l.2.name) ∧ w3.cell? ⟨p, 3, none⟩ = some (.slice ao l.2.args.length c) ∧ w3.cell? ⟨p, 4, none⟩ = some (.string l.2.undo)) ∧ Hid (Wk q v.ownBlock w0 w3 ∧ RowTo w0 v (.slice (some ⟨g, 0, none⟩) (ps.length + 1) vc)) ∧ Hid (LBox w3 p l ao c) := by
 have hx' := hx.keepS hs2 hk3
 exact ⟨h3, hx'.cells, ⟨(hk1.trans hk2 (.inl rfl)).trans hk3 (.inl rfl), RowTo.refl.trans hr3 (Nat.le_trans hk1.size hk2.size)⟩, hx'⟩
end
def SkBlk (q base : Nat) (lo : Option Addr) (cap : Nat) (ls : List Ln) (at_ at2 N : Nat) (kind : Int) (f : Nat → List Stp) : Prop :=
 ∀ (w : World) (v : Value) (ps : List (Stp × Value)), SkSt q base lo cap ls w at_ v ps → ps.length ≤ N → Calls Tryz.prog 32 #[.pointer (some ⟨q, 0, none⟩)] w fun e w' =>
  e = .returned (.int .i64 kind) ∧ ∃ (v' : Value) (qs : List (Stp × Value)), qs.map (·.1) = f ps.length ∧ SkSt q base lo cap ls w' at2 v' (ps ++ qs) ∧ Wk q v.ownBlock w w' ∧ RowTo w v v'
def SkInn (q base : Nat) (lo : Option Addr) (cap : Nat) (ls : List Ln) (F at_ at2 N : Nat) (l : Ln) (f : Nat → List Stp) : Prop :=
 ∀ (w : World) (v : Value) (ps : List (Stp × Value)) (ao : Option Addr) (c : Nat), SkSt q base lo cap ls w at_ v ps → StrsAt 0 q w ao l.2.args → ps.length ≤ N → Calls Tryz.prog F #[.pointer (some ⟨q, 0, none⟩), .agg #[.int .i64 l.1, .string l.2.to, .string l.2.name, .slice ao l.2.args.length c, .string l.2.undo]] w fun e w' =>
  e = .returned (.tuple #[]) ∧ ∃ (v' : Value) (qs : List (Stp × Value)), qs.map (·.1) = f ps.length ∧ SkSt q base lo cap ls w' at2 v' (ps ++ qs) ∧ Wk q v.ownBlock w w' ∧ RowTo w v v'
end
end Go.Proofs.YtlbjjbolbopfmaaGreatDoor
