import Derived.Test.YtlbjjbolbopfmaaGreatDoorJ39
namespace Go.Proofs.YtlbjjbolbopfmaaGreatDoor
set_option maxHeartbeats 32000000
set_option maxRecDepth 1000000
set_option linter.unusedVariables false
open Go.RowKit
def InIH (m p : Nat) (lo : Option Addr) (cap : Nat) (ls : List Ln) : Prop :=
 ∀ (t : Bl) (rest : List Ln) (at_ : Nat) (br : Bool) (ks : List ByteArray), t.flat.length ≤ m → z_aR t = true → z_am (z_au t).1 = true → t.wf → ls.drop at_ = t.flat ++ rest → ks.length + t.flat.length ≤ 1000 →
  CkInn p lo cap ls at_ (at_ + z_ai t) (z_au t).1 br ks (z_dz ks br t)
def ckM (p n : Nat) (w : World) : Nat := match w.cell? ⟨p, 3, none⟩ with
 | some v => if intOf v = 0 then (match w.cell? ⟨p, 1, none⟩ with
  | some u => n + 1 - (intOf u).toNat
  | none => 0) else 0
 | none => 0
theorem z_iq {w : World} {p n : Nat} {L : Value} {a : Nat} {ln : Int} (h : CObj w p L a ln 0) : ckM p n w = n + 1 - a := by
 unfold ckM; rw [h.c3, h.c1]; simp [intOf]
theorem z_dv {w : World} {p n : Nat} {L : Value} {a ln fc : Int} (h : CObj w p L a ln fc) (hf : (fc == 0) = false) : ckM p n w = 0 := by
 have : fc ≠ 0 := by simpa using hf
 unfold ckM; rw [h.c3]; simp [intOf, this]
theorem z_lE {ks : List ByteArray} {br : Bool} {t : Bl} (hn : z_aR t = true) : z_al ks br false t = none := by
 rw [z_dV ks br false t hn, if_neg]
 simp [z_bk]
theorem z_my {ks : List ByteArray} {br live : Bool} {t : Bl} (hn : z_aR t = true) (h : z_bk ks br live (z_au t) = false) : z_al ks br live t = none := by
 rw [z_dV ks br live t hn, if_neg (by rw [h]; decide)]
theorem z_gm {t : Bl} (hn : z_aR t = true) (hw : t.wf) : ((z_au t).1 != 1) = true := by
 cases t with
 | nil => cases hn
 | plain l r => rw [bne_iff_ne]; exact hw.2.2.1
 | one l p x r =>
  have := hw.1
  rw [z_b6] at this
  show (l.1 != 1) = true
  rcases this with h | h | h | h <;> rw [h] <;> rfl
 | two l p m q x r =>
  show (l.1 != 1) = true
  rcases hw.1 with ⟨h, _⟩ | ⟨h, _⟩
  ·rw [z_bK] at h; rcases h with h | h <;> rw [h] <;> rfl
  ·rw [h]; rfl
theorem z_dw {t : Bl} (ks : List ByteArray) (br live : Bool) (hn : z_aR t = true) (hw : t.wf) (ho : z_am (z_au t).1 = false) :
  z_ai t = 1 ∧ z_al ks br live t = if z_bk ks br live (z_au t) = true then z_al (z_c5 ks (z_au t).2.to) br (!z_a1 (z_au t).1) (z_aO t) else none := by
 cases t with
 | nil => cases hn
 | plain l r => exact ⟨rfl, z_kM ks br live l r⟩
 | one l p e r => have := hw.1; rw [show (z_au (.one l p e r)).1 = l.1 from rfl, this] at ho; cases ho
 | two l p m q e r =>
  exfalso
  rw [show (z_au (.two l p m q e r)).1 = l.1 from rfl] at ho
  rcases hw.1 with ⟨h, _⟩ | ⟨h, _⟩
  ·rw [z_bK] at h; rcases h with h | h <;> rw [h] at ho <;> cases ho
  ·rw [h] at ho; cases ho
theorem z_mb {ks k : List ByteArray} {br c : Bool} {t : Bl} (h : z_dz ks br t = some (k, c)) : k.length ≤ ks.length + z_ai t := by
 have pl : ∀ (p : Bl) (b : Bool) (k : List ByteArray) (c : Bool), z_al ks b true p = some (k, c) → ∃ g, k = ks ++ g ∧ News ks g ∧ g.length ≤ p.flat.length := fun p b k c hh => by
  obtain ⟨g, rfl, hg⟩ := z_bM p ks b true k c hh
  have := z_g1 p.flat.length p (Nat.le_refl _) ks b true _ c hh
  exact ⟨g, rfl, hg, by simp at this; omega⟩
 cases t with
 | nil => cases h
 | plain l r => cases h
 | one l p e r =>
  simp only [z_dz] at h
  cases hp : z_al ks br true p with
  | none => rw [hp] at h; cases h
  | some x =>
   rw [hp] at h
   simp only [Option.map_some, Option.some.injEq, Prod.mk.injEq] at h
   rw [← h.1]; omega
 | two l p m q e r =>
  simp only [z_dz] at h
  by_cases h9 : l.1 = 9
  ·rw [if_pos h9] at h
   cases hp : z_al ks true true p with
   | none => rw [hp] at h; cases h
   | some x =>
    obtain ⟨k1, c1⟩ := x
    cases hq : z_al ks true true q with
    | none => rw [hp, hq] at h; cases h
    | some y =>
     obtain ⟨k2, c2⟩ := y
     rw [hp, hq] at h
     obtain ⟨g1, rfl, hn1, hl1⟩ := pl p _ _ _ hp
     obtain ⟨g2, rfl, hn2, hl2⟩ := pl q _ _ _ hq
     simp only [z_mA] at h
     split at h
     ·cases h
     ·simp only [Option.some.injEq, Prod.mk.injEq] at h
      rw [← h.1, z_ho ks g1 g2 hn1]
      have := z_bz (g1 ++ g2) ks
      simp only [List.length_append] at this
      simp only [z_ai]; omega
  ·rw [if_neg h9] at h
   cases hp : z_al ks br true p with
   | none => rw [hp] at h; cases h
   | some x =>
    obtain ⟨k1, c1⟩ := x
    cases hq : z_al ks br true q with
    | none => rw [hp, hq] at h; cases h
    | some y =>
     obtain ⟨k2, c2⟩ := y
     rw [hp, hq] at h
     obtain ⟨g1, rfl, hn1, hl1⟩ := pl p _ _ _ hp
     obtain ⟨g2, rfl, hn2, hl2⟩ := pl q _ _ _ hq
     simp only [z_hC] at h
     have hcl := z_kR (ks ++ g1) (ks ++ g2)
     simp only [List.length_append] at hcl
     split at h
     ·simp only [Option.some.injEq, Prod.mk.injEq] at h
      rw [← h.1]; simp only [List.length_append, z_ai]; omega
     ·split at h
      ·simp only [Option.some.injEq, Prod.mk.injEq] at h
       rw [← h.1]; simp only [List.length_append, z_ai]; omega
      ·simp only [Option.some.injEq, Prod.mk.injEq] at h
       rw [← h.1]; simp only [z_ai]; omega
theorem z_ik {k : Int} (h : z_a1 k = true) : z_am k = false := by
 unfold z_a1 at h
 simp only [Bool.or_eq_true, beq_iff_eq] at h
 rcases h with (h | h) | h <;> rw [h] <;> rfl
theorem z_mH (ks : List ByteArray) : z_c5 ks eS = ks := by
 have h : eS.toList.isEmpty = true := by rw [show eS = ByteArray.empty from rfl]; simp [ByteArray.toList, ByteArray.toList.loop]
 unfold z_c5; rw [h]; rfl
theorem z_kL {ks : List ByteArray} {s : ByteArray} (h : s.toList.isEmpty = false) : z_c5 ks s = uniU ks [s] := by unfold z_c5; rw [h]; rfl
theorem z_kj (m p : Nat) (lo : Option Addr) (cap : Nat) (ls : List Ln) (hl : ls.length ≤ 60) (hl0 : 0 < ls.length) (hg : ∀ l ∈ ls, GoodL l) (HI : InIH m p lo cap ls) : CkIH m p lo cap ls := by
 intro t rest at_ br ks ht hw hd hend hks w ko ck ln hc hli hk
 have HII : Hid (InIH m p lo cap ls) := HI
 have HGd : Hid (∀ l ∈ ls, GoodL l) := hg
 have HC : Hid (CObj w p (.slice lo ls.length cap) at_ ln 0) := hc
 have HKs : Hid (StrsAt (p + 1) w.heap.size w ko ks) := hk
 have HLi : Hid (LinesAt p w lo ls) := hli
 obtain ⟨b, off, rfl, _⟩ := hli 0 hl0
 have hlt := hc.lt
 clear HI hc hli hk hg
 go_enter Tryz.func67, Tryz.ntmps67
 go_wp2_with fail
 go_loopw [1, 8] (fun x y wr => (∃ (t' : Bl) (at' : Nat) (ks' : List ByteArray) (ko' : Option Addr) (ck' : Nat) (live : Bool) (ln' : Int), x = .slice ko' ks'.length ck' ∧ y = .bool live ∧ Hid (CObj wr p (.slice (some ⟨b, off, none⟩) ls.length cap) at' ln' 0) ∧ Hid (StrsAt (p + 1) wr.heap.size wr ko' ks') ∧ Hid (w.grownBy wr (some p)) ∧ Hid (ls.drop at' = t'.flat ++ rest) ∧ Hid t'.wf ∧ t'.flat.length ≤ m ∧ at' + t'.flat.length = at_ + t.flat.length ∧ Hid (z_al ks br true t = z_al ks' br live t') ∧ ks'.length + t'.flat.length ≤ 1000)
   ∨ (∃ (vo : Option Addr) (vn vc : Nat) (live : Bool) (a ln' fc : Int), x = .slice vo vn vc ∧ y = .bool live ∧ Hid (CObj wr p (.slice (some ⟨b, off, none⟩) ls.length cap) a ln' fc) ∧ (fc == 0) = false ∧ Hid (z_al ks br true t = none) ∧ Hid (w.grownBy wr (some p)))) (fun _ _ wr => ckM p ls.length wr)
 case atStart => exact .inl ⟨t, at_, ks, ko, ck, true, ln, rfl, rfl, HC.out, HKs.out, z_bH p w, hd, hw, ht, rfl, rfl, hks⟩
 case round =>
  rcases hrel with ⟨t', at', ks', ko', ck', live, ln', rfl, rfl, HC1, HS1, HG1, HD1, HW1, htm, hsum, HR1, hlen⟩ | ⟨vo, vn, vc, live, a, ln', fc, rfl, rfl, HC1, hfc, HR1, HG1⟩
  ·have d0 := HC1.out.c0
   have d1 := HC1.out.c1
   have d3 := HC1.out.c3
   have gz := HC1.out.fz 1
   have hlt1 := HC1.out.lt
   have HLi1 : Hid (LinesAt p wr (some ⟨b, off, none⟩) ls) := HLi.out.below (z_cp HG1.out hlt)
   cases hnode : z_aR t' with
   | false =>
    have ht' : t' = .nil := by cases t' <;> first | rfl | cases hnode
    subst ht'
    have hD : ls.drop at' = rest := by have := HD1.out; simpa [Bl.flat] using this
    have HR : Hid (z_al ks br true t = some (ks', live)) := HR1.out
    have hat' : Hid (at' = at_ + t.flat.length) := by show _ = _; simpa [Bl.flat] using hsum
    rcases hend with rfl | ⟨c, r, rfl, hcl⟩
    ·have hge : ls.length ≤ at' := by
      rcases Nat.lt_or_ge at' ls.length with h | h
      ·have := congrArg List.length hD; simp at this; omega
      ·exact h
     have hge2 : ¬ (at' : Int) < ls.length := by omega
     have hge3 : decide (at' < ls.length) = false := decide_eq_false (by omega)
     have hge4 : decide ((at' : Int) < ls.length) = false := decide_eq_false (by omega)
     go_wp2_with fail
     go_quiet (fail)
     go_wp2_with fail
     go_ret2
     refine ⟨z_aW HG1.out (z_aa (Below.refl _ _) _), ?_⟩
     rw [HR.out, ← hat'.out]
     exact ⟨ko', ck', ln', rfl, HC1.out.below (z_aa (Below.refl _ _) _), z_ba HS1.out (z_aW (z_bH p wr) (z_aa (Below.refl _ _) _))⟩
    ·obtain ⟨h1, h2, _⟩ := z_a2 hD
     obtain ⟨aoA, capA, hcA, q0, q1, q2, q3, q4, hA⟩ : ∃ aoA capA, c.2.args.length ≤ capA ∧ wr.cell? ⟨b, off + at' * 5, none⟩ = some (.int .i64 c.1) ∧ wr.cell? ⟨b, off + at' * 5 + 1, none⟩ = some (.string c.2.to) ∧ wr.cell? ⟨b, off + at' * 5 + 2, none⟩ = some (.string c.2.name) ∧ wr.cell? ⟨b, off + at' * 5 + 3, none⟩ = some (.slice aoA c.2.args.length capA) ∧ wr.cell? ⟨b, off + at' * 5 + 4, none⟩ = some (.string c.2.undo) ∧ b < p := by
      obtain ⟨b', off', e, hB, aoA, capA, hcA, q0, q1, q2, q3, q4, hA⟩ := HLi1.out at' h1
      cases e
      rw [h2] at q0 q1 q2 q3 q4 hcA
      exact ⟨aoA, capA, hcA, q0, q1, q2, q3, q4, hB⟩
     have h3 : (at' : Int) < ls.length := by omega
     have hbw : b < wr.heap.size := by omega
     rw [z_be] at hcl
     have HRet : Hid (∀ W : World, Below wr.heap.size wr W → z_nN p (some ⟨b, off, none⟩) cap ls (at_ + t.flat.length) w (z_al ks br true t) (.returned (.tuple #[.slice ko' ks'.length ck', .bool live])) W) := fun W hb => by
      refine ⟨z_aW HG1.out hb, ?_⟩
      rw [HR.out, ← hat'.out]
      exact ⟨ko', ck', ln', rfl, HC1.out.below hb, z_ba HS1.out (z_aW (z_bH p wr) hb)⟩
     rcases hcl with h | h | h
     all_goals
      rw [h] at q0
      clear h
      go_wp2_with fail
      go_quiet (fail)
      obtain ⟨W0, hW0⟩ : ∃ W0, W0 = wr.drewN nq := ⟨_, rfl⟩
      have HB0 : Hid (Below wr.heap.size wr W0) := by rw [hW0]; exact z_aa (Below.refl _ _) nq
      rw [← hW0]
      clear hW0
      have z0 := (HB0.out.cell (p := ⟨p, 0, none⟩) hlt1).trans d0
      have z1 := (HB0.out.cell (p := ⟨p, 1, none⟩) hlt1).trans d1
      have y0 := (HB0.out.cell (p := ⟨b, _, none⟩) hbw).trans q0
      have y1 := (HB0.out.cell (p := ⟨b, _, none⟩) hbw).trans q1
      have y2 := (HB0.out.cell (p := ⟨b, _, none⟩) hbw).trans q2
      have y3 := (HB0.out.cell (p := ⟨b, _, none⟩) hbw).trans q3
      have y4 := (HB0.out.cell (p := ⟨b, _, none⟩) hbw).trans q4
      have hw0 := HB0.out.size
      have hlt0 : p < W0.heap.size := by omega
      have hbw0 : b < W0.heap.size := by omega
      clear d0 d1 d3 gz q0 q1 q2 q3 q4
      go_wp2_with fail
      go_region
      all_goals
       go_wp2_with fail
       go_ret2
       exact HRet.out _ (HB0.out.trans ((((Below.refl _ _).alloc (Nat.le_refl _) _).drew).mono HB0.out.size))
   | true =>
    obtain ⟨h1, h2⟩ := z_bX HD1.out hnode
    obtain ⟨aoA, capA, hcA, q0, q1, q2, q3, q4, hbp, hA⟩ : ∃ aoA capA, (z_au t').2.args.length ≤ capA ∧ wr.cell? ⟨b, off + at' * 5, none⟩ = some (.int .i64 (z_au t').1) ∧ wr.cell? ⟨b, off + at' * 5 + 1, none⟩ = some (.string (z_au t').2.to) ∧ wr.cell? ⟨b, off + at' * 5 + 2, none⟩ = some (.string (z_au t').2.name) ∧ wr.cell? ⟨b, off + at' * 5 + 3, none⟩ = some (.slice aoA (z_au t').2.args.length capA) ∧ wr.cell? ⟨b, off + at' * 5 + 4, none⟩ = some (.string (z_au t').2.undo) ∧ b < p ∧ StrsAt 0 p wr aoA (z_au t').2.args := by
     obtain ⟨b', off', e, hB, aoA, capA, hcA, q0, q1, q2, q3, q4, hA⟩ := HLi1.out at' h1
     cases e
     rw [h2] at q0 q1 q2 q3 q4 hcA hA
     exact ⟨aoA, capA, hcA, q0, q1, q2, q3, q4, hB, hA⟩
    have hgl := HGd.out _ (List.getElem_mem h1)
    rw [h2] at hgl
    have hnc := z_cL hnode HW1.out
    have hn1 := z_gm hnode HW1.out
    have h3 : (at' : Int) < ls.length := by omega
    have hbw : b < wr.heap.size := by omega
    obtain ⟨l, hL⟩ : ∃ l, l = z_au t' := ⟨_, rfl⟩
    have HLf : Hid (l = z_au t') := hL
    rw [← hL] at q0 q1 q2 q3 q4 hA hgl hnc hn1 hcA
    clear hL h2
    obtain ⟨kd, dd⟩ := l
    have HGl : Hid (GoodL (kd, dd)) := hgl
    have HA : Hid (StrsAt 0 p wr aoA dd.args) := hA
    simp only at q0 q1 q2 q3 q4 hcA hn1 hnc
    have hb7 : (kd == 7) = false := by unfold z_ae at hnc; simp only [Bool.or_eq_false_iff] at hnc; exact hnc.1.1
    have hb10 : (kd == 10) = false := by unfold z_ae at hnc; simp only [Bool.or_eq_false_iff] at hnc; exact hnc.1.2
    have hb11 : (kd == 11) = false := by unfold z_ae at hnc; simp only [Bool.or_eq_false_iff] at hnc; exact hnc.2
    clear hgl hA hnc
    go_wp2_with fail
    go_quiet (fail)
    obtain ⟨W0, hW0⟩ : ∃ W0, W0 = wr.drewN nq := ⟨_, rfl⟩
    have HB0 : Hid (Below wr.heap.size wr W0) := by rw [hW0]; exact z_aa (Below.refl _ _) nq
    rw [← hW0]
    clear hW0
    have z0 := (HB0.out.cell (p := ⟨p, 0, none⟩) hlt1).trans d0
    have z1 := (HB0.out.cell (p := ⟨p, 1, none⟩) hlt1).trans d1
    have y0 := (HB0.out.cell (p := ⟨b, _, none⟩) hbw).trans q0
    have y1 := (HB0.out.cell (p := ⟨b, _, none⟩) hbw).trans q1
    have y2 := (HB0.out.cell (p := ⟨b, _, none⟩) hbw).trans q2
    have y3 := (HB0.out.cell (p := ⟨b, _, none⟩) hbw).trans q3
    have y4 := (HB0.out.cell (p := ⟨b, _, none⟩) hbw).trans q4
    have hw0 := HB0.out.size
    have hlt0 : p < W0.heap.size := by omega
    have hbw0 : b < W0.heap.size := by omega
    clear d0 d1 d3 gz q0 q1 q2 q3 q4
    go_wp2_with fail
    go_region
    all_goals
     obtain ⟨W1, hW1⟩ : ∃ W1, W1 = (W0.alloc (.cells #[.int .i64 kd, .string dd.to, .string dd.name, .slice aoA dd.args.length capA, .string dd.undo] 49)).drew := ⟨_, rfl⟩
     have hb1 : Below W0.heap.size W0 W1 := by rw [hW1]; exact ((Below.refl _ _).alloc (Nat.le_refl _) _).drew
     have hX1 : LBox W1 W0.heap.size (kd, dd) aoA capA := by rw [hW1]; exact heap_alloc_new W0 _
     rw [← hW1]
     have HB1 : Hid (Below wr.heap.size wr W1) := HB0.out.trans (hb1.mono HB0.out.size)
     have HX1 : Hid (LBox W1 W0.heap.size (kd, dd) aoA capA) := hX1
     have HC2 : Hid (CObj W1 p (.slice (some ⟨b, off, none⟩) ls.length cap) at' ln' 0) := HC1.out.below HB1.out
     have HG2 : Hid (w.grownBy W1 (some p)) := z_aW HG1.out HB1.out
     have HS2 : Hid (StrsAt (p + 1) W1.heap.size W1 ko' ks') := z_ba HS1.out (z_aW (z_bH p wr) HB1.out)
     have HA2 : Hid (StrsAt 0 p W1 aoA dd.args) := HA.out.below (HB1.out.mono (Nat.le_of_lt hlt1))
     obtain ⟨x0, x1, x2, x3, x4⟩ := HX1.out.cells
     have hbx : W0.heap.size < W1.heap.size := (Array.getElem?_eq_some_iff.1 hX1).1
     clear hW1 hb1 hX1 z0 z1 y0 y1 y2 y3 y4
     cases live with
     | false =>
      have HN : Hid (z_al ks br true t = none) := by show _ = _; rw [HR1.out, z_lE hnode]
      go_wp2_with fail
      refine (z_cl p _ at' ln' 7 _ HC2.out (by omega)).mono ?_
      rintro e W2 ⟨rfl, hc3, hg3⟩
      have HC3 : Hid (CObj W2 p (.slice (some ⟨b, off, none⟩) ls.length cap) at' ((at' : Int) + 1) 7) := hc3
      have HG3 : Hid (w.grownBy W2 (some p)) := z_ah HG2.out hg3 (.inl rfl)
      clear hc3 hg3
      go_wp2_with fail
      go_ret2
      refine ⟨HG3.out, ?_⟩
      rw [HN.out]
      exact ⟨_, _, _, _, _, _, 7, rfl, HC3.out, rfl⟩
     | true =>
      go_wp2_with fail
      refine (z_mJ p _ at' ln' kd dd.to dd.name dd.undo aoA ko' capA ck' dd.args ks' W1 HC2.out (by omega) hn1 HGl.out.sz.len HGl.out.sz.args (by omega) HA2.out HS2.out).mono ?_
      rintro e W2 ⟨rfl, ln2, fc2, hc3, hu, hg3⟩
      have HOk : Hid (z_bk ks' br true (z_au t') = (z_dX ks' dd.args && !(z_a1 kd && br))) := by
       show _ = _
       rw [← HLf.out, z_gc ks' dd.args HGl.out.good.args]
       show (true && _) = _
       rw [Bool.true_and]
      have HG3 : Hid (w.grownBy W2 (some p)) := z_ah HG2.out hg3 (.inl rfl)
      have HC3 : Hid (CObj W2 p (.slice (some ⟨b, off, none⟩) ls.length cap) at' ln2 fc2) := hc3
      have HS3 : Hid (StrsAt (p + 1) W2.heap.size W2 ko' ks') := z_ba HS2.out hg3
      have HX3 : Hid (LBox W2 W0.heap.size (kd, dd) aoA capA) := (hg3.block _ hbx (by simp; omega)).trans HX1.out
      obtain ⟨x0, x1, x2, x3, x4⟩ := HX3.out.cells
      have z1 := hc3.c1
      have zf := hc3.fz 1
      have hlt3 := hc3.lt
      have hbx3 : W0.heap.size < W2.heap.size := (Array.getElem?_eq_some_iff.1 HX3.out).1
      have hw3 : w.heap.size ≤ W2.heap.size := HG3.out.size
      have e1 : Hid (((at' + 1 : Nat) : Int) = (at' : Int) + 1) := by show _ = _; omega
      have HUs : Hid ((fc2 == 0) = z_dX ks' dd.args) := hu
      have hm0 := z_iq (n := ls.length) HC1.out
      have hat1 : at' < ls.length := h1
      clear hc3 hg3 hu HX1
      have HNo : Hid (z_bk ks' br true (z_au t') = false → z_al ks br true t = none) := fun h => by rw [HR1.out, z_my hnode h]
      cases hs : z_a1 kd with
      | true =>
       have hop : z_am kd = false := z_ik hs
       obtain ⟨hn1', hcp⟩ := z_dw ks' br true hnode HW1.out (by rw [← HLf.out]; exact hop)
       have hto := HGl.out.leaves hs
       have HRp : Hid (z_bk ks' br true (z_au t') = true → z_al ks br true t = z_al ks' br false (z_aO t')) := fun h => by
        rw [HR1.out, hcp, if_pos h, ← HLf.out]
        show z_al (z_c5 ks' dd.to) br (!z_a1 kd) (z_aO t') = _
        rw [show dd.to = eS from hto, z_mH, hs]; rfl
       have HDr : Hid (ls.drop (at' + 1) = (z_aO t').flat ++ rest) := by have h := z_cK HD1.out; rw [hn1'] at h; exact h
       have HWr : Hid (z_aO t').wf := z_ed HW1.out
       have hln := z_b7 t'
       rw [hn1'] at hln
       clear hcp hto hn1'
       cases hbr : br with
       | false =>
        cases hub : (fc2 == 0) with
        | true =>
         have hf0 : fc2 = 0 := eq_of_beq hub
         subst hf0
         have HRr : Hid (z_al ks false true t = z_al ks' false false (z_aO t')) := by have h := HRp.out (by rw [HOk.out, ← HUs.out, hbr, hs]; rfl); rw [hbr] at h; exact h
         have HCx : Hid (CObj W2 p (.slice (some ⟨b, off, none⟩) ls.length cap) at' ln2 0) := HC3.out
         have HGx := HG3
         have HCe : Hid (CObj (W2.setCell ⟨p, 1, none⟩ (.int .i64 ((at' : Int) + 1))) p (.slice (some ⟨b, off, none⟩) ls.length cap) (at' + 1 : Nat) ln2 0) := by
          have h := HCx.out.at ((at' : Int) + 1)
          rw [← e1.out] at h ⊢; exact h
         have HGe : Hid (w.grownBy (W2.setCell ⟨p, 1, none⟩ (.int .i64 ((at' : Int) + 1))) (some p)) := z_a9 HGx.out 1 _
         subst hbr
         go_wp2_with (go_at_call 102; refine (z_a8 _ _).mono ?_; rintro e W2 ⟨rfl, rfl⟩; rw [hs])
         go_roundw
         case rel => exact .inl ⟨z_aO t', at' + 1, ks', ko', ck', false, ln2, rfl, rfl, HCe.out, z_ba HS3.out (z_a9 (z_bH p W2) 1 _), HGe.out, HDr.out, HWr.out, by omega, by omega, HRr.out, by omega⟩
         case measure => rw [z_iq HCe.out, hm0]; omega
        | false =>
         have hfb := hub
         have HN : Hid (z_al ks false true t = none) := by have h := HNo.out (by rw [HOk.out, ← HUs.out, hub]; rfl); rw [hbr] at h; exact h
         have HCx := HC3
         have HGx := HG3
         have HCe : Hid (CObj (W2.setCell ⟨p, 1, none⟩ (.int .i64 ((at' : Int) + 1))) p (.slice (some ⟨b, off, none⟩) ls.length cap) (at' + 1 : Nat) ln2 fc2) := by
          have h := HCx.out.at ((at' : Int) + 1)
          rw [← e1.out] at h ⊢; exact h
         have HGe : Hid (w.grownBy (W2.setCell ⟨p, 1, none⟩ (.int .i64 ((at' : Int) + 1))) (some p)) := z_a9 HGx.out 1 _
         subst hbr
         go_wp2_with (go_at_call 102; refine (z_a8 _ _).mono ?_; rintro e W2 ⟨rfl, rfl⟩; rw [hs])
         go_roundw
         case rel => exact .inr ⟨_, _, _, _, _, _, _, rfl, rfl, HCe.out, hfb, HN.out, HGe.out⟩
         case measure => rw [z_dv HCe.out hfb, hm0]; omega
       | true =>
        have HN : Hid (z_al ks true true t = none) := by have h := HNo.out (by rw [HOk.out, hbr, hs]; simp); rw [hbr] at h; exact h
        subst hbr
        cases hub : (fc2 == 0) with
        | true =>
         have hf0 : fc2 = 0 := eq_of_beq hub
         subst hf0
         go_wp2_with (go_at_call 102; refine (z_a8 _ _).mono ?_; rintro e W2 ⟨rfl, rfl⟩; rw [hs])
         refine (z_cl p _ at' ln2 2 _ HC3.out (by omega)).mono ?_
         rintro e W4 ⟨rfl, hc4, hg4⟩
         have HCx : Hid (CObj W4 p (.slice (some ⟨b, off, none⟩) ls.length cap) at' ((at' : Int) + 1) 2) := hc4
         have HGx : Hid (w.grownBy W4 (some p)) := z_ah HG3.out hg4 (.inl rfl)
         have HX4 : Hid (LBox W4 W0.heap.size (kd, dd) aoA capA) := (hg4.block _ hbx3 (by simp; omega)).trans HX3.out
         obtain ⟨x0, x1, x2, x3, x4⟩ := HX4.out.cells
         have z1 := hc4.c1
         have zf := hc4.fz 1
         have hlt4 := hc4.lt
         have hfb : ((2 : Int) == 0) = false := rfl
         clear hc4 hg4
         have HCe : Hid (CObj (W4.setCell ⟨p, 1, none⟩ (.int .i64 ((at' : Int) + 1))) p (.slice (some ⟨b, off, none⟩) ls.length cap) (at' + 1 : Nat) ((at' : Int) + 1) 2) := by
          have h := HCx.out.at ((at' : Int) + 1)
          rw [← e1.out] at h ⊢; exact h
         have HGe : Hid (w.grownBy (W4.setCell ⟨p, 1, none⟩ (.int .i64 ((at' : Int) + 1))) (some p)) := z_a9 HGx.out 1 _
         go_wp2_with (go_at_call 102; refine (z_a8 _ _).mono ?_; rintro e W2 ⟨rfl, rfl⟩; rw [hs])
         go_roundw
         case rel => exact .inr ⟨_, _, _, _, _, _, _, rfl, rfl, HCe.out, hfb, HN.out, HGe.out⟩
         case measure => rw [z_dv HCe.out hfb, hm0]; omega
        | false =>
         have hfb := hub
         have HCx := HC3
         have HGx := HG3
         have HCe : Hid (CObj (W2.setCell ⟨p, 1, none⟩ (.int .i64 ((at' : Int) + 1))) p (.slice (some ⟨b, off, none⟩) ls.length cap) (at' + 1 : Nat) ln2 fc2) := by
          have h := HCx.out.at ((at' : Int) + 1)
          rw [← e1.out] at h ⊢; exact h
         have HGe : Hid (w.grownBy (W2.setCell ⟨p, 1, none⟩ (.int .i64 ((at' : Int) + 1))) (some p)) := z_a9 HGx.out 1 _
         go_wp2_with (first | (go_at_call 102; refine (z_a8 _ _).mono ?_; rintro e W2 ⟨rfl, rfl⟩; rw [hs]) | (go_at_call 68; refine (z_f7 p _ at' ln2 fc2 2 _ HC3.out hub).mono ?_; rintro e W2 ⟨rfl, rfl⟩))
         go_roundw
         case rel => exact .inr ⟨_, _, _, _, _, _, _, rfl, rfl, HCe.out, hfb, HN.out, HGe.out⟩
         case measure => rw [z_dv HCe.out hfb, hm0]; omega
      | false =>
       cases hop : z_am kd with
       | true =>
        have hfn : z_am (z_au t').1 = true := by rw [← HLf.out]; exact hop
        have HCo : Hid (z_al ks' br true t' = if z_bk ks' br true (z_au t') = true then (match z_dz ks' br t' with | none => none | some (k, c) => z_al k br c (z_aO t')) else none) := z_l0 ks' br true t' hnode hfn HW1.out
        have HIn : Hid (CkInn p (some ⟨b, off, none⟩) cap ls at' (at' + z_ai t') kd br ks' (z_dz ks' br t')) := by
         have h := HII.out t' rest at' br ks' htm hnode hfn HW1.out HD1.out hlen
         rw [← HLf.out] at h; exact h
        have HDr : Hid (ls.drop (at' + z_ai t') = (z_aO t').flat ++ rest) := z_cK HD1.out
        have HWr : Hid (z_aO t').wf := z_ed HW1.out
        have hln := z_b7 t'
        have hpos : 1 ≤ z_ai t' := by cases t' <;> simp [z_ai, z_aR] at hnode ⊢
        have HLi3 : Hid (LinesAt p W2 (some ⟨b, off, none⟩) ls) := HLi.out.below (z_cp HG3.out hlt)
        cases hub : (fc2 == 0) with
        | true =>
         have hf0 : fc2 = 0 := eq_of_beq hub
         subst hf0
         have HRr : Hid (z_al ks br true t = match z_dz ks' br t' with | none => none | some (k, c) => z_al k br c (z_aO t')) := by
          show _ = _
          rw [HR1.out, HCo.out, if_pos]
          rw [HOk.out, ← HUs.out, hs]; rfl
         have hbr := Bool.eq_false_or_eq_true br
         rcases hbr with hbr | hbr
         all_goals
          subst hbr
          go_wp2_with (first | (go_at_call 102; refine (z_a8 _ _).mono ?_; rintro e W2 ⟨rfl, rfl⟩; rw [hs]) | (go_at_call 71; refine (z_ao _ _).mono ?_; rintro e W2 ⟨rfl, rfl⟩; rw [hop]))
          refine (HIn.out W2 ko' ck' ln2 HC3.out HLi3.out HS3.out).mono ?_
          rintro e W4 ⟨hg4, hres⟩
          have HGe : Hid (w.grownBy W4 (some p)) := z_ah HG3.out hg4 (.inl rfl)
          clear hg4
          generalize hnc : z_dz ks' _ t' = res at hres HRr
          cases res with
          | none =>
           obtain ⟨xo, xn, xc, y, a, ln4, fc4, rfl, hc4, hfb⟩ := hres
           have HCe : Hid (CObj W4 p (.slice (some ⟨b, off, none⟩) ls.length cap) a ln4 fc4) := hc4
           have HN := HRr
           clear hc4
           go_wp2_with fail
           go_roundw
           case rel => exact .inr ⟨_, _, _, _, _, _, _, rfl, rfl, HCe.out, hfb, HN.out, HGe.out⟩
           case measure => rw [z_dv HCe.out hfb, hm0]; omega
          | some r =>
           obtain ⟨k2, c2⟩ := r
           obtain ⟨ao2, ac2, ln4, rfl, hc4, hs4⟩ := hres
           have HCe : Hid (CObj W4 p (.slice (some ⟨b, off, none⟩) ls.length cap) (at' + z_ai t' : Nat) ln4 0) := hc4
           have HS4 : Hid (StrsAt (p + 1) W4.heap.size W4 ao2 k2) := hs4
           have hk2 := z_mb hnc
           clear hc4 hs4
           go_wp2_with fail
           go_roundw
           case rel => exact .inl ⟨z_aO t', at' + z_ai t', k2, ao2, ac2, c2, ln4, rfl, rfl, HCe.out, HS4.out, HGe.out, HDr.out, HWr.out, by omega, by omega, HRr.out, by omega⟩
           case measure => rw [z_iq HCe.out, hm0]; omega
        | false =>
         have HN : Hid (z_al ks br true t = none) := HNo.out (by rw [HOk.out, ← HUs.out, hub]; rfl)
         have hbr := Bool.eq_false_or_eq_true br
         rcases hbr with hbr | hbr
         all_goals
          subst hbr
          go_wp2_with (first | (go_at_call 102; refine (z_a8 _ _).mono ?_; rintro e W2 ⟨rfl, rfl⟩; rw [hs]) | (go_at_call 71; refine (z_ao _ _).mono ?_; rintro e W2 ⟨rfl, rfl⟩; rw [hop]))
          refine (z_lS p _ at' ln2 fc2 kd ko' ks'.length ck' _ W2 HC3.out (by omega) hub).mono ?_
          rintro e W4 ⟨rfl, hc4, hg4⟩
          have HCe : Hid (CObj W4 p (.slice (some ⟨b, off, none⟩) ls.length cap) ((at' : Int) + 1) ln2 fc2) := hc4
          have HGe : Hid (w.grownBy W4 (some p)) := z_ah HG3.out hg4 (.inl rfl)
          have hfb := hub
          clear hc4 hg4
          go_wp2_with fail
          go_roundw
          case rel => exact .inr ⟨_, _, _, _, _, _, _, rfl, rfl, HCe.out, hfb, HN.out, HGe.out⟩
          case measure => rw [z_dv HCe.out hfb, hm0]; omega
       | false =>
        obtain ⟨hn1', hcp⟩ := z_dw ks' br true hnode HW1.out (by rw [← HLf.out]; exact hop)
        have HRp : Hid (z_bk ks' br true (z_au t') = true → z_al ks br true t = z_al (z_c5 ks' dd.to) br true (z_aO t')) := fun h => by
         rw [HR1.out, hcp, if_pos h, ← HLf.out]
         show z_al (z_c5 ks' dd.to) br (!z_a1 kd) (z_aO t') = _
         rw [hs]; rfl
        have HDr : Hid (ls.drop (at' + 1) = (z_aO t').flat ++ rest) := by have h := z_cK HD1.out; rw [hn1'] at h; exact h
        have HWr : Hid (z_aO t').wf := z_ed HW1.out
        have hln := z_b7 t'
        rw [hn1'] at hln
        clear hcp hn1'
        cases hto : dd.to.toList.isEmpty with
        | true =>
         have hto2 : (dd.to.toList != []) = false := by cases h : dd.to.toList with
          | nil => rfl
          | cons => rw [h] at hto; cases hto
         have hto3 : z_c5 ks' dd.to = ks' := by unfold z_c5; rw [hto]; rfl
         have HT : Hid (z_c5 ks' dd.to = ks') := hto3
         clear hto3
         have hbr := Bool.eq_false_or_eq_true br
         cases hub : (fc2 == 0) with
         | true =>
          have hf0 : fc2 = 0 := eq_of_beq hub
          subst hf0
          have HRr : Hid (z_al ks br true t = z_al ks' br true (z_aO t')) := by have h := HRp.out (by rw [HOk.out, ← HUs.out, hs]; rfl); rw [HT.out] at h; exact h
          have HCx : Hid (CObj W2 p (.slice (some ⟨b, off, none⟩) ls.length cap) at' ln2 0) := HC3.out
          have HGx := HG3
          have HCe : Hid (CObj (W2.setCell ⟨p, 1, none⟩ (.int .i64 ((at' : Int) + 1))) p (.slice (some ⟨b, off, none⟩) ls.length cap) (at' + 1 : Nat) ln2 0) := by
           have h := HCx.out.at ((at' : Int) + 1)
           rw [← e1.out] at h ⊢; exact h
          have HGe : Hid (w.grownBy (W2.setCell ⟨p, 1, none⟩ (.int .i64 ((at' : Int) + 1))) (some p)) := z_a9 HGx.out 1 _
          rcases hbr with hbr | hbr
          all_goals
           subst hbr
           go_wp2_with (first | (go_at_call 102; refine (z_a8 _ _).mono ?_; rintro e W2 ⟨rfl, rfl⟩; rw [hs]) | (go_at_call 71; refine (z_ao _ _).mono ?_; rintro e W2 ⟨rfl, rfl⟩; rw [hop]))
           go_roundw
           case rel => exact .inl ⟨z_aO t', at' + 1, ks', ko', ck', true, ln2, rfl, rfl, HCe.out, z_ba HS3.out (z_a9 (z_bH p W2) 1 _), HGe.out, HDr.out, HWr.out, by omega, by omega, HRr.out, by omega⟩
           case measure => rw [z_iq HCe.out, hm0]; omega
         | false =>
          have hfb := hub
          have HN : Hid (z_al ks br true t = none) := HNo.out (by rw [HOk.out, ← HUs.out, hub]; rfl)
          have HCx := HC3
          have HGx := HG3
          have HCe : Hid (CObj (W2.setCell ⟨p, 1, none⟩ (.int .i64 ((at' : Int) + 1))) p (.slice (some ⟨b, off, none⟩) ls.length cap) (at' + 1 : Nat) ln2 fc2) := by
           have h := HCx.out.at ((at' : Int) + 1)
           rw [← e1.out] at h ⊢; exact h
          have HGe : Hid (w.grownBy (W2.setCell ⟨p, 1, none⟩ (.int .i64 ((at' : Int) + 1))) (some p)) := z_a9 HGx.out 1 _
          rcases hbr with hbr | hbr
          all_goals
           subst hbr
           go_wp2_with (first | (go_at_call 102; refine (z_a8 _ _).mono ?_; rintro e W2 ⟨rfl, rfl⟩; rw [hs]) | (go_at_call 71; refine (z_ao _ _).mono ?_; rintro e W2 ⟨rfl, rfl⟩; rw [hop]))
           go_roundw
           case rel => exact .inr ⟨_, _, _, _, _, _, _, rfl, rfl, HCe.out, hfb, HN.out, HGe.out⟩
           case measure => rw [z_dv HCe.out hfb, hm0]; omega
        | false =>
         have hto2 : (dd.to.toList != []) = true := by cases h : dd.to.toList with
          | nil => rw [h] at hto; cases hto
          | cons => rfl
         have HT : Hid (z_c5 ks' dd.to = uniU ks' [dd.to]) := z_kL hto
         have hul := z_bz [dd.to] ks'
         obtain ⟨k9, hk9⟩ : ∃ k9, k9 = uniU ks' [dd.to] := ⟨_, rfl⟩
         rw [← hk9] at hul
         have HK9 : Hid (k9 = uniU ks' [dd.to]) := hk9
         have hk9l : k9.length ≤ ks'.length + 1 := hul
         clear hk9 hul
         have HUn : Hid (∀ W : World, StrsAt (p + 1) W.heap.size W ko' ks' → Calls Tryz.prog 104 #[.slice ko' ks'.length ck', .slice (some ⟨W.heap.size, 0, none⟩) 1 1] (W.alloc (.cells #[.string dd.to] 9)) fun e w' => ∃ so sc, e = .returned (.slice so k9.length sc) ∧ Below W.heap.size W w' ∧ StrsAt (W.heap.size + 1) w'.heap.size w' so k9) := fun W h => by
          have hbw := (Below.refl W.heap.size W).alloc (Nat.le_refl _) (.cells #[.string dd.to] 9)
          have hst : StrsAt 0 (W.alloc (.cells #[.string dd.to] 9)).heap.size (W.alloc (.cells #[.string dd.to] 9)) (some ⟨W.heap.size, 0, none⟩) [dd.to] := by
           have := z_cm W [dd.to] 9
           exact this.mono (Nat.zero_le _) (Nat.le_refl _)
          have hun := z_e7 ko' (some ⟨W.heap.size, 0, none⟩) ck' 1 ks'.length 1 ks' [dd.to] (W.alloc (.cells #[.string dd.to] 9)) rfl rfl (by omega) (by simp) ((h.below hbw).mono (Nat.zero_le _) hbw.size) hst
          refine hun.mono ?_
          rintro e w' ⟨so, sc, rfl, hb, hs⟩
          rw [← HK9.out] at hs ⊢
          exact ⟨so, sc, rfl, hbw.trans (hb.mono hbw.size), hs.mono (by simp) (Nat.le_refl _)⟩
         have hbr := Bool.eq_false_or_eq_true br
         cases hub : (fc2 == 0) with
         | true =>
          have hf0 : fc2 = 0 := eq_of_beq hub
          subst hf0
          have HRr : Hid (z_al ks br true t = z_al k9 br true (z_aO t')) := by have h := HRp.out (by rw [HOk.out, ← HUs.out, hs]; rfl); rw [HT.out, ← HK9.out] at h; exact h
          rcases hbr with hbr | hbr
          all_goals
           subst hbr
           go_wp2_with (first | (go_at_call 102; refine (z_a8 _ _).mono ?_; rintro e W2 ⟨rfl, rfl⟩; rw [hs]) | (go_at_call 71; refine (z_ao _ _).mono ?_; rintro e W2 ⟨rfl, rfl⟩; rw [hop]))
           refine (HUn.out W2 HS3.out).mono ?_
           rintro e W4 ⟨so, sc, rfl, hb4, hs4⟩
           have HCx : Hid (CObj W4 p (.slice (some ⟨b, off, none⟩) ls.length cap) at' ln2 0) := HC3.out.below hb4
           have HGx : Hid (w.grownBy W4 (some p)) := z_aW HG3.out hb4
           have HS4 : Hid (StrsAt (p + 1) W4.heap.size W4 so k9) := hs4.mono (by omega) (Nat.le_refl _)
           have z1 := HCx.out.c1
           have zf := HCx.out.fz 1
           have hlt4 := HCx.out.lt
           have HCe : Hid (CObj (W4.setCell ⟨p, 1, none⟩ (.int .i64 ((at' : Int) + 1))) p (.slice (some ⟨b, off, none⟩) ls.length cap) (at' + 1 : Nat) ln2 0) := by
            have h := HCx.out.at ((at' : Int) + 1)
            rw [← e1.out] at h ⊢; exact h
           have HGe : Hid (w.grownBy (W4.setCell ⟨p, 1, none⟩ (.int .i64 ((at' : Int) + 1))) (some p)) := z_a9 HGx.out 1 _
           clear hb4 hs4
           go_wp2_with fail
           go_roundw
           case rel => exact .inl ⟨z_aO t', at' + 1, k9, so, sc, true, ln2, rfl, rfl, HCe.out, z_ba HS4.out (z_a9 (z_bH p W4) 1 _), HGe.out, HDr.out, HWr.out, by omega, by omega, HRr.out, by omega⟩
           case measure => rw [z_iq HCe.out, hm0]; omega
         | false =>
          have hfb := hub
          have HN : Hid (z_al ks br true t = none) := HNo.out (by rw [HOk.out, ← HUs.out, hub]; rfl)
          rcases hbr with hbr | hbr
          all_goals
           subst hbr
           go_wp2_with (first | (go_at_call 102; refine (z_a8 _ _).mono ?_; rintro e W2 ⟨rfl, rfl⟩; rw [hs]) | (go_at_call 71; refine (z_ao _ _).mono ?_; rintro e W2 ⟨rfl, rfl⟩; rw [hop]))
           refine (HUn.out W2 HS3.out).mono ?_
           rintro e W4 ⟨so, sc, rfl, hb4, hs4⟩
           have HCx : Hid (CObj W4 p (.slice (some ⟨b, off, none⟩) ls.length cap) at' ln2 fc2) := HC3.out.below hb4
           have HGx : Hid (w.grownBy W4 (some p)) := z_aW HG3.out hb4
           have z1 := HCx.out.c1
           have zf := HCx.out.fz 1
           have hlt4 := HCx.out.lt
           have HCe : Hid (CObj (W4.setCell ⟨p, 1, none⟩ (.int .i64 ((at' : Int) + 1))) p (.slice (some ⟨b, off, none⟩) ls.length cap) (at' + 1 : Nat) ln2 fc2) := by
            have h := HCx.out.at ((at' : Int) + 1)
            rw [← e1.out] at h ⊢; exact h
           have HGe : Hid (w.grownBy (W4.setCell ⟨p, 1, none⟩ (.int .i64 ((at' : Int) + 1))) (some p)) := z_a9 HGx.out 1 _
           clear hb4 hs4
           go_wp2_with fail
           go_roundw
           case rel => exact .inr ⟨_, _, _, _, _, _, _, rfl, rfl, HCe.out, hfb, HN.out, HGe.out⟩
           case measure => rw [z_dv HCe.out hfb, hm0]; omega
  ·have d3 := HC1.out.c3
   have hlt1 := HC1.out.lt
   go_wp2_with fail
   go_quiet (fail)
   go_wp2_with fail
   go_ret2
   refine ⟨z_aW HG1.out (z_aa (Below.refl _ _) _), ?_⟩
   rw [HR1.out]
   exact ⟨vo, vn, vc, live, a, ln', fc, rfl, HC1.out.below (z_aa (Below.refl _ _) _), hfc⟩
end Go.Proofs.YtlbjjbolbopfmaaGreatDoor
