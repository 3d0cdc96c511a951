import Derived.Test.YtlbjjbolbopfmaaGreatDoorJ15
namespace Go.Proofs.YtlbjjbolbopfmaaGreatDoor
set_option maxHeartbeats 4000000
set_option maxRecDepth 1000000
set_option linter.unusedVariables false
section
open Go.RowKit
theorem PartEnd.wrote {q base p : Nat} {ao : Option Addr} {cap : Nat} {ls : List Ln} {at2 boths at_ : Nat} {ks : List ByteArray} {v : Value} {w W1 W2 : World} {res : Option (List ByteArray × Bool)} {e : Ending}
  (hk1 : Wk q v.ownBlock w W1) (hs1 : WkSt q base ao cap ls W1 at_ boths ks v) (hp : w.heap.size ≤ p) (hp1 : PartB W1 p (.slice none 0 0) (.bool false)) (hpq : q < p) (hvp : v.ownBlock ≠ some p)
  (h : PartEnd q base ao cap ls at2 boths ks v W1 res e W2) :
  ∃ go gn gc c er, e = .returned (.tuple #[.agg #[.slice go gn gc, .bool c], er]) ∧ (er = .nilIface ∨ ∃ t x, er = .iface t x) ∧ PartB W2 p (.slice none 0 0) (.bool false) ∧ PartB ((W2.setCell ⟨p, 0, none⟩ (.slice go gn gc)).setCell ⟨p, 1, none⟩ (.bool c)) p (.slice go gn gc) (.bool c) ∧
   PartEnd q base ao cap ls at2 boths ks v w res e ((W2.setCell ⟨p, 0, none⟩ (.slice go gn gc)).setCell ⟨p, 1, none⟩ (.bool c)) := by
 obtain ⟨hk2, hres⟩ := h
 have hp2 := hp1.wk hk2 (by omega) hvp
 have hk12 : Wk q v.ownBlock w W2 := hk1.trans hk2 (.inl rfl)
 have hlt := hp1.lt
 cases res with
 | none =>
  obtain ⟨er, v', at3, rfl, hec, hs2, hr2⟩ := hres
  obtain ⟨t, x, rfl⟩ := hec.form
  have hv' := hr2.ne hlt hvp
  exact ⟨none, 0, 0, false, _, rfl, .inr ⟨t, x, rfl⟩, hp2, hp2.wrote _ _, z_aC hk12 hp _ _, _, v', at3, rfl, hec, hs2.wrote (by omega) hv' (by omega) _ _, RowTo.refl.trans hr2 hk1.size⟩
 | some r =>
  obtain ⟨g, c⟩ := r
  obtain ⟨gv, v', rfl, hs2, hr2, hg2, hsep⟩ := hres
  obtain ⟨go, gc, rfl, hgc⟩ := z_aq hg2
  have hv' := hr2.ne hlt hvp
  have hgp : (Value.slice go g.length gc).ownBlock ≠ some p := fun e => by have := (hg2.lt _ e).1; omega
  exact ⟨go, g.length, gc, c, _, rfl, .inl rfl, hp2, hp2.wrote _ _, z_aC hk12 hp _ _, _, v', rfl, hs2.wrote (by omega) hv' (by omega) _ _, RowTo.refl.trans hr2 hk1.size, z_bh (z_b hg2 hgp _ _) hk1.size, hsep⟩
theorem z_eS (q base : Nat) (ao : Option Addr) (cap : Nat) (ls : List Ln) (at_ at2 boths : Nat) (ks : List ByteArray) (res : Option (List ByteArray × Bool)) (hl : ls.length ≤ 60) (hat : at_ < ls.length) (hk : z_aE ls[at_].1 = true)
  (H : z_aZ q base ao cap ls 167 at_ at2 boths ks res) : z_aZ q base ao cap ls 130 at_ at2 boths ks res := by
 intro w v hs
 have HH : Hid (z_aZ q base ao cap ls 167 at_ at2 boths ks res) := H
 clear H
 have HS : Hid (WkSt q base ao cap ls w at_ boths ks v) := hs
 obtain ⟨b, off, rfl, hB, aoA, capA, hcA, q0, q1, q2, q3, q4, hA⟩ := hs.linesW at_ hat
 obtain ⟨L, hL⟩ : ∃ L, L = ls[at_] := ⟨_, rfl⟩
 rw [← hL] at q0 q1 q2 q3 q4 hA hcA hk
 clear hL hA
 obtain ⟨kd, dd⟩ := L
 simp only at q0 q1 q2 q3 q4 hcA hk
 have w0 := hs.obj.c0
 have w1 := hs.obj.c1
 have hqlt := hs.obj.lt
 clear hs
 go_enter Tryz.func130, Tryz.ntmps130
 go_wp2
 go_region
 all_goals (try go_wp2_with (go_at_call 110; refine (z_aX _ _).mono ?_; rintro e w' ⟨rfl, rfl⟩; rw [hk]))
 obtain ⟨W1, hW1⟩ : ∃ W1, W1 = ((w.alloc (.cells #[.slice none 0 0, .bool false] 138)).alloc (.cells #[.int .i64 kd, .string dd.to, .string dd.name, .slice aoA dd.args.length capA, .string dd.undo] 49)).drew := ⟨_, rfl⟩
 have hbw : Below w.heap.size w W1 := by rw [hW1]; exact (((Below.refl _ _).alloc (Nat.le_refl _) _).alloc (by simp) _).drew
 have hp1 : PartB W1 w.heap.size (.slice none 0 0) (.bool false) := by
  rw [hW1]
  exact (Below.heap_alloc _ _ _ (by simp)).trans (heap_alloc_new w _)
 rw [← hW1]
 clear hW1
 have hs1 := HS.out.below hbw
 refine (HH.out W1 v hs1).mono ?_
 rintro e W2 hpe
 obtain ⟨go, gn, gc, c, er, rfl, her, hp2, hp3, hend⟩ := PartEnd.wrote (Wk.of_below (q := q) (row := v.ownBlock) hbw) hs1 (Nat.le_refl _) hp1 hqlt (fun e => by have := (HS.out.row_lt e).2; omega) hpe
 obtain ⟨x0, x1, g0, g1⟩ := hp2.cells
 have HE : Hid (PartEnd q base (some ⟨b, off, none⟩) cap ls at2 boths ks v w res (.returned (.tuple #[.agg #[.slice go gn gc, .bool c], er])) ((W2.setCell ⟨w.heap.size, 0, none⟩ (.slice go gn gc)).setCell ⟨w.heap.size, 1, none⟩ (.bool c))) := hend
 have HP3 : Hid (PartB ((W2.setCell ⟨w.heap.size, 0, none⟩ (.slice go gn gc)).setCell ⟨w.heap.size, 1, none⟩ (.bool c)) w.heap.size (.slice go gn gc) (.bool c)) := hp3
 clear hpe hp2 hp3 hend hp1 hs1
 go_wp2
 obtain ⟨r0, r1, _, _⟩ := HP3.out.cells
 exact bodyPost_ret (v := .tuple #[.agg #[.slice go gn gc, .bool c], er]) (by simp [results, Tryz.results130, go_sem, r0, r1]) rfl HE.out
theorem z_lZ (q base : Nat) (ao : Option Addr) (cap : Nat) (ls : List Ln) (at_ at2 boths : Nat) (ks : List ByteArray) (res : Option (List ByteArray × Bool)) (hl : ls.length ≤ 60) (hat : at_ < ls.length) (hk : ls[at_].1 = 8)
  (H : z_aZ q base ao cap ls 168 at_ at2 boths ks res) : z_aZ q base ao cap ls 130 at_ at2 boths ks res := by
 intro w v hs
 have HH : Hid (z_aZ q base ao cap ls 168 at_ at2 boths ks res) := H
 clear H
 have HS : Hid (WkSt q base ao cap ls w at_ boths ks v) := hs
 obtain ⟨b, off, rfl, hB, aoA, capA, hcA, q0, q1, q2, q3, q4, hA⟩ := hs.linesW at_ hat
 obtain ⟨L, hL⟩ : ∃ L, L = ls[at_] := ⟨_, rfl⟩
 rw [← hL] at q0 q1 q2 q3 q4 hA hcA hk
 clear hL hA
 obtain ⟨kd, dd⟩ := L
 simp only at q0 q1 q2 q3 q4 hcA hk
 subst hk
 have w0 := hs.obj.c0
 have w1 := hs.obj.c1
 have hqlt := hs.obj.lt
 clear hs
 go_enter Tryz.func130, Tryz.ntmps130
 go_wp2
 go_region
 all_goals (try go_wp2_with (go_at_call 110; refine (z_aX _ _).mono ?_; rintro e w' ⟨rfl, rfl⟩; rw [show z_aE 8 = false from rfl]))
 obtain ⟨W1, hW1⟩ : ∃ W1, W1 = ((w.alloc (.cells #[.slice none 0 0, .bool false] 138)).alloc (.cells #[.int .i64 8, .string dd.to, .string dd.name, .slice aoA dd.args.length capA, .string dd.undo] 49)).drew := ⟨_, rfl⟩
 have hbw : Below w.heap.size w W1 := by rw [hW1]; exact (((Below.refl _ _).alloc (Nat.le_refl _) _).alloc (by simp) _).drew
 have hp1 : PartB W1 w.heap.size (.slice none 0 0) (.bool false) := by
  rw [hW1]
  exact (Below.heap_alloc _ _ _ (by simp)).trans (heap_alloc_new w _)
 rw [← hW1]
 clear hW1
 have hs1 := HS.out.below hbw
 refine (HH.out W1 v hs1).mono ?_
 rintro e W2 hpe
 obtain ⟨go, gn, gc, c, er, rfl, her, hp2, hp3, hend⟩ := PartEnd.wrote (Wk.of_below (q := q) (row := v.ownBlock) hbw) hs1 (Nat.le_refl _) hp1 hqlt (fun e => by have := (HS.out.row_lt e).2; omega) hpe
 obtain ⟨x0, x1, g0, g1⟩ := hp2.cells
 have HE : Hid (PartEnd q base (some ⟨b, off, none⟩) cap ls at2 boths ks v w res (.returned (.tuple #[.agg #[.slice go gn gc, .bool c], er])) ((W2.setCell ⟨w.heap.size, 0, none⟩ (.slice go gn gc)).setCell ⟨w.heap.size, 1, none⟩ (.bool c))) := hend
 have HP3 : Hid (PartB ((W2.setCell ⟨w.heap.size, 0, none⟩ (.slice go gn gc)).setCell ⟨w.heap.size, 1, none⟩ (.bool c)) w.heap.size (.slice go gn gc) (.bool c)) := hp3
 clear hpe hp2 hp3 hend hp1 hs1
 go_wp2
 obtain ⟨r0, r1, _, _⟩ := HP3.out.cells
 exact bodyPost_ret (v := .tuple #[.agg #[.slice go gn gc, .bool c], er]) (by simp [results, Tryz.results130, go_sem, r0, r1]) rfl HE.out
theorem z_lC (q base : Nat) (ao : Option Addr) (cap : Nat) (ls : List Ln) (at_ at2 boths : Nat) (ks : List ByteArray) (res : Option (List ByteArray × Bool)) (hl : ls.length ≤ 60) (hat : at_ < ls.length) (hk : ls[at_].1 = 9)
  (H : z_aZ q base ao cap ls 169 at_ at2 boths ks res) : z_aZ q base ao cap ls 130 at_ at2 boths ks res := by
 intro w v hs
 have HH : Hid (z_aZ q base ao cap ls 169 at_ at2 boths ks res) := H
 clear H
 have HS : Hid (WkSt q base ao cap ls w at_ boths ks v) := hs
 obtain ⟨b, off, rfl, hB, aoA, capA, hcA, q0, q1, q2, q3, q4, hA⟩ := hs.linesW at_ hat
 obtain ⟨L, hL⟩ : ∃ L, L = ls[at_] := ⟨_, rfl⟩
 rw [← hL] at q0 q1 q2 q3 q4 hA hcA hk
 clear hL hA
 obtain ⟨kd, dd⟩ := L
 simp only at q0 q1 q2 q3 q4 hcA hk
 subst hk
 have w0 := hs.obj.c0
 have w1 := hs.obj.c1
 have hqlt := hs.obj.lt
 clear hs
 go_enter Tryz.func130, Tryz.ntmps130
 go_wp2
 go_region
 all_goals (try go_wp2_with (go_at_call 110; refine (z_aX _ _).mono ?_; rintro e w' ⟨rfl, rfl⟩; rw [show z_aE 9 = false from rfl]))
 obtain ⟨W1, hW1⟩ : ∃ W1, W1 = ((w.alloc (.cells #[.slice none 0 0, .bool false] 138)).alloc (.cells #[.int .i64 9, .string dd.to, .string dd.name, .slice aoA dd.args.length capA, .string dd.undo] 49)).drew := ⟨_, rfl⟩
 have hbw : Below w.heap.size w W1 := by rw [hW1]; exact (((Below.refl _ _).alloc (Nat.le_refl _) _).alloc (by simp) _).drew
 have hp1 : PartB W1 w.heap.size (.slice none 0 0) (.bool false) := by
  rw [hW1]
  exact (Below.heap_alloc _ _ _ (by simp)).trans (heap_alloc_new w _)
 rw [← hW1]
 clear hW1
 have hs1 := HS.out.below hbw
 refine (HH.out W1 v hs1).mono ?_
 rintro e W2 hpe
 obtain ⟨go, gn, gc, c, er, rfl, her, hp2, hp3, hend⟩ := PartEnd.wrote (Wk.of_below (q := q) (row := v.ownBlock) hbw) hs1 (Nat.le_refl _) hp1 hqlt (fun e => by have := (HS.out.row_lt e).2; omega) hpe
 obtain ⟨x0, x1, g0, g1⟩ := hp2.cells
 have HE : Hid (PartEnd q base (some ⟨b, off, none⟩) cap ls at2 boths ks v w res (.returned (.tuple #[.agg #[.slice go gn gc, .bool c], er])) ((W2.setCell ⟨w.heap.size, 0, none⟩ (.slice go gn gc)).setCell ⟨w.heap.size, 1, none⟩ (.bool c))) := hend
 have HP3 : Hid (PartB ((W2.setCell ⟨w.heap.size, 0, none⟩ (.slice go gn gc)).setCell ⟨w.heap.size, 1, none⟩ (.bool c)) w.heap.size (.slice go gn gc) (.bool c)) := hp3
 clear hpe hp2 hp3 hend hp1 hs1
 go_wp2
 obtain ⟨r0, r1, _, _⟩ := HP3.out.cells
 exact bodyPost_ret (v := .tuple #[.agg #[.slice go gn gc, .bool c], er]) (by simp [results, Tryz.results130, go_sem, r0, r1]) rfl HE.out
end
section
open Go.RowKit
theorem z_ns {w : World} {g base : Nat} {s : ByteArray} (h : w.heap[g]? = some (.cells #[.string s] 9 (0, 0))) (hb : base ≤ g) : w.ownsRow base 9 1 (.slice (some ⟨g, 0, none⟩) 1 1) 1 (strCells [s]) :=
 ⟨rfl, .inr ⟨g, 1, #[.string s], rfl, hb, h, Nat.le_refl _, by decide, rfl, rfl⟩⟩
theorem z_ku (q base : Nat) (ao : Option Addr) (cap : Nat) (ls : List Ln) (at_ boths : Nat) (ks : List ByteArray) (hl : ls.length ≤ 60) (hat : at_ < ls.length) (ho : z_am ls[at_].1 = false) :
  z_aZ q base ao cap ls 130 at_ (at_ + 1) boths ks (some (if ls[at_].2.to.toList.isEmpty = true then [] else [ls[at_].2.to], !z_a1 ls[at_].1)) := by
 intro w v hs
 have HS : Hid (WkSt q base ao cap ls w at_ boths ks v) := hs
 obtain ⟨b, off, rfl, hB, aoA, capA, hcA, q0, q1, q2, q3, q4, hA⟩ := hs.linesW at_ hat
 obtain ⟨L, hL⟩ : ∃ L, L = ls[at_] := ⟨_, rfl⟩
 rw [← hL] at q0 q1 q2 q3 q4 hA hcA ho ⊢
 clear hL hA
 obtain ⟨kd, dd⟩ := L
 simp only at q0 q1 q2 q3 q4 hcA ho ⊢
 have hc : z_aE kd = false := by
  unfold z_am at ho; simp only [Bool.or_eq_false_iff] at ho; exact ho.1.1
 have h8 : (kd == 8) = false := by
  unfold z_am at ho; simp only [Bool.or_eq_false_iff] at ho; exact ho.1.2
 have h9 : (kd == 9) = false := by
  unfold z_am at ho; simp only [Bool.or_eq_false_iff] at ho; exact ho.2
 have w0 := hs.obj.c0
 have w1 := hs.obj.c1
 have f1 := hs.obj.f 1
 have hqlt := hs.obj.lt
 clear hs ho
 have e1 : ((at_ + 1 : Nat) : Int) = (at_ : Int) + 1 := by omega
 cases he : dd.to.toList.isEmpty with
 | true =>
  have he2 : (dd.to.toList == []) = true := by rw [← he]; cases dd.to.toList <;> rfl
  go_enter Tryz.func130, Tryz.ntmps130
  go_wp2
  go_region
  all_goals (try go_wp2_with (first
   | (go_at_call 110; refine (z_aX _ _).mono ?_; rintro e w' ⟨rfl, rfl⟩; rw [hc])
   | (go_at_call 166; refine (z_cE _ _).mono ?_; rintro e w' ⟨rfl, rfl⟩)))
  have hs1 := HS.out.set1 (at_ + 1)
  rw [e1] at hs1
  have hk1 : Wk q v.ownBlock w (w.setCell ⟨q, 1, none⟩ (.int .i64 ((at_ : Int) + 1))) := Wk.of_set 1 _
  have hb : ∀ L L' L'' : Obj, Below (w.setCell ⟨q, 1, none⟩ (.int .i64 ((at_ : Int) + 1))).heap.size (w.setCell ⟨q, 1, none⟩ (.int .i64 ((at_ : Int) + 1))) ((((w.setCell ⟨q, 1, none⟩ (.int .i64 ((at_ : Int) + 1))).alloc L).alloc L').alloc L'').drew := fun L L' L'' => ((((Below.refl _ _).alloc (Nat.le_refl _) _).alloc (by simp) _).alloc (by simp; omega) _).drew
  refine bodyPost_ret (v := .tuple #[.agg #[.slice none 0 0, .bool (!z_a1 kd)], .nilIface]) (by simp [results, Tryz.results130, go_sem]) rfl ?_
  exact ⟨hk1.trans (Wk.of_below (row := v.ownBlock) (hb _ _ _)) (.inl rfl), _, v, rfl, hs1.below (hb _ _ _), RowTo.refl, World.ownsRow_nil _ _ _ _, fun k hk => by simp [Value.ownBlock] at hk⟩
 | false =>
  have he2 : (dd.to.toList == []) = false := by rw [← he]; cases dd.to.toList <;> rfl
  go_enter Tryz.func130, Tryz.ntmps130
  go_wp2
  go_region
  all_goals (try go_wp2_with (first
   | (go_at_call 110; refine (z_aX _ _).mono ?_; rintro e w' ⟨rfl, rfl⟩; rw [hc])
   | (go_at_call 166; refine (z_cE _ _).mono ?_; rintro e w' ⟨rfl, rfl⟩)))
  have hs1 := HS.out.set1 (at_ + 1)
  rw [e1] at hs1
  have hk1 : Wk q v.ownBlock w (w.setCell ⟨q, 1, none⟩ (.int .i64 ((at_ : Int) + 1))) := Wk.of_set 1 _
  have hsz : (w.setCell ⟨q, 1, none⟩ (.int .i64 ((at_ : Int) + 1))).heap.size = w.heap.size := by simp [World.setCell]
  have hb : ∀ L L' L'' L3 : Obj, Below (w.setCell ⟨q, 1, none⟩ (.int .i64 ((at_ : Int) + 1))).heap.size (w.setCell ⟨q, 1, none⟩ (.int .i64 ((at_ : Int) + 1))) (((((w.setCell ⟨q, 1, none⟩ (.int .i64 ((at_ : Int) + 1))).alloc L).alloc L').alloc L'').alloc L3).drew := fun L L' L'' L3 => (((((Below.refl _ _).alloc (Nat.le_refl _) _).alloc (by simp) _).alloc (by simp; omega) _).alloc (by simp; omega) _).drew
  have hnew : ∀ L L' L'' : Obj, ((((((w.setCell ⟨q, 1, none⟩ (.int .i64 ((at_ : Int) + 1))).alloc L).alloc L').alloc L'').alloc (.cells #[.string dd.to] 9)).drew).heap[w.heap.size + 1 + 1 + 1]? = some (.cells #[.string dd.to] 9 (0, 0)) := fun L L' L'' => by
   have := heap_alloc_new ((((w.setCell ⟨q, 1, none⟩ (.int .i64 ((at_ : Int) + 1))).alloc L).alloc L').alloc L'') (.cells #[.string dd.to] 9)
   rw [World.size_alloc, World.size_alloc, World.size_alloc, hsz] at this
   exact this
  refine bodyPost_ret (v := .tuple #[.agg #[.slice (some ⟨w.heap.size + 1 + 1 + 1, 0, none⟩) 1 1, .bool (!z_a1 kd)], .nilIface]) (by simp [results, Tryz.results130, go_sem]) rfl ?_
  refine ⟨hk1.trans (Wk.of_below (row := v.ownBlock) (hb _ _ _ _)) (.inl rfl), _, v, rfl, hs1.below (hb _ _ _ _), RowTo.refl, z_ns (hnew _ _ _) (by omega), fun k hk hv => ?_⟩
  have h1 := (HS.out.row_lt hv).2
  have h2 : w.heap.size + 1 + 1 + 1 = k := by simpa [Value.ownBlock] using hk
  omega
end
section
open Go.RowKit
def z_jq (rest : List Ln) : Prop := rest = [] ∨ ∃ c r, rest = c :: r ∧ z_ae c.1 = true
def z_jg (n q base : Nat) (ao : Option Addr) (cap : Nat) (ls : List Ln) : Prop :=
 ∀ (p : Bl) (rest : List Ln) (at_ boths : Nat) (ks : List ByteArray), p.flat.length ≤ n → p.wf → ls.drop at_ = p.flat ++ rest → z_jq rest → boths + p.flat.length ≤ 500 → ks.length + p.flat.length ≤ 1000 →
  z_aZ q base ao cap ls 95 at_ (at_ + p.flat.length) boths ks (z_bA ks (decide (0 < boths)) p)
theorem z_cO {ks : List ByteArray} {b : Bool} {p : Bl} {g : List ByteArray} {c : Bool} (h : z_bA ks b p = some (g, c)) : g.length ≤ p.flat.length := by
 have h1 := z_g1 p.flat.length p (Nat.le_refl _) _ _ _ _ _ (z_cj h).1
 simp at h1; omega
theorem z_a2 {ls : List Ln} {n : Nat} {a : Ln} {r : List Ln} (h : ls.drop n = a :: r) : ∃ hl : n < ls.length, ls[n] = a ∧ ls.drop (n + 1) = r := by
 have hl : n < ls.length := by
  rcases Nat.lt_or_ge n ls.length with h1 | h1
  ·exact h1
  ·rw [List.drop_eq_nil_of_le h1] at h; cases h
 have e := List.drop_eq_getElem_cons hl
 rw [h] at e
 simp only [List.cons.injEq] at e
 exact ⟨hl, e.1.symm, e.2.symm⟩
theorem z_bB {ls : List Ln} {n : Nat} {a b : List Ln} (h : ls.drop n = a ++ b) : ls.drop (n + a.length) = b := by
 rw [← List.drop_drop, h, List.drop_left]
theorem z_ev {ls : List Ln} {n k : Nat} {a b : List Ln} (h : ls.drop n = a ++ b) (hk : k = a.length) : (ls.drop n).take k = a := by
 rw [h, hk, List.take_left]
theorem z_lT (n q base : Nat) (ao : Option Addr) (cap : Nat) (ls : List Ln) (hl : ls.length ≤ 60) (hcap : ls.length ≤ cap) (hz : ∀ l ∈ ls, LnSz l) (IH : z_jg n q base ao cap ls)
  (t : Bl) (rest : List Ln) (at_ boths : Nat) (ks : List ByteArray) (ht : t.flat.length ≤ n + 1) (hn : z_aR t = true) (hw : t.wf) (hd : ls.drop at_ = t.flat ++ rest) (hb : boths + t.flat.length ≤ 500) (hks : ks.length + t.flat.length ≤ 1000) :
  z_aZ q base ao cap ls 130 at_ (at_ + z_ai t) boths ks (z_cu ks (decide (0 < boths)) t) := by
 cases t with
 | nil => cases hn
 | plain l r =>
  obtain ⟨h1, h2, _⟩ := z_a2 (a := l) (r := r.flat ++ rest) hd
  have := z_ku q base ao cap ls at_ boths ks hl h1 (by rw [h2]; exact hw.1)
  rw [h2] at this
  exact this
 | one l p e r =>
  have hd1 : ls.drop at_ = l :: (p.flat ++ (e :: (r.flat ++ rest))) := by rw [hd]; simp [Bl.flat]
  obtain ⟨h1, h2, h3⟩ := z_a2 hd1
  have h4 := z_bB h3
  obtain ⟨h5, h6, _⟩ := z_a2 h4
  simp only [Bl.flat, List.length_cons, List.length_append] at ht hb hks
  have hB := IH p _ (at_ + 1) boths ks (by omega) hw.2.2.2.1 h3 (.inr ⟨e, _, rfl, by rw [hw.2.2.1]; rfl⟩) (by omega) (by omega)
  have hI := z_da q base ao cap ls at_ (at_ + 1 + p.flat.length) boths ks _ (by omega) hB
  have hnn : at_ + z_ai (.one l p e r) = at_ + 1 + p.flat.length + 1 := by simp only [z_ai]; omega
  have hR : z_cu ks (decide (0 < boths)) (.one l p e r) = (z_bA ks (decide (0 < boths)) p).map fun _ => (([] : List ByteArray), true) := by
   simp only [z_cu]
   cases z_bA ks (decide (0 < boths)) p <;> rfl
  rw [hnn, hR]
  cases hch : z_aE l.1 with
  | true =>
   have hC := z_kw q base ao cap ls at_ (at_ + 1 + p.flat.length) boths ks _ (by omega) hl h5 (by rw [h6]; exact hw.2.2.1) (fun g c h => by have := z_cO h; omega) hI
   exact z_eS q base ao cap ls at_ _ boths ks _ hl h1 (by rw [h2]; exact hch) hC
  | false =>
   have h8 : l.1 = 8 := by
    have ho := hw.1
    rw [z_b6] at ho
    have h9 := hw.2.1
    rcases ho with h | h | h | h
    ·rw [h] at hch; cases hch
    ·rw [h] at hch; cases hch
    ·exact h
    ·exact absurd h h9
   have hC := z_mv q base ao cap ls at_ (at_ + 1 + p.flat.length) boths ks _ (by omega) hI
   exact z_lZ q base ao cap ls at_ _ boths ks _ hl h1 (by rw [h2]; exact h8) hC
 | two l p m qq e r =>
  have hd1 : ls.drop at_ = l :: (p.flat ++ (m :: (qq.flat ++ (e :: (r.flat ++ rest))))) := by rw [hd]; simp [Bl.flat]
  obtain ⟨h1, h2, h3⟩ := z_a2 hd1
  have h4 := z_bB h3
  obtain ⟨h5, h6, h7⟩ := z_a2 h4
  have h8 := z_bB h7
  obtain ⟨h9, h10, _⟩ := z_a2 h8
  simp only [Bl.flat, List.length_cons, List.length_append] at ht hb hks
  have hmc : z_ae m.1 = true := by rcases hw.1 with ⟨_, h⟩ | ⟨_, h⟩ <;> rw [h] <;> rfl
  have hec : z_ae e.1 = true := by rw [hw.2.1]; rfl
  have hnn : at_ + z_ai (.two l p m qq e r) = at_ + 1 + p.flat.length + 1 + qq.flat.length + 1 := by simp only [z_ai]; omega
  rw [hnn]
  rcases hw.1 with ⟨hch, hm7⟩ | ⟨hl9, hm10⟩
  ·have hB1 := IH p _ (at_ + 1) boths ks (by omega) hw.2.2.1 h3 (.inr ⟨m, _, rfl, hmc⟩) (by omega) (by omega)
   have hI1 := z_da q base ao cap ls at_ (at_ + 1 + p.flat.length) boths ks _ (by omega) hB1
   have hB2 := IH qq _ (at_ + 1 + p.flat.length + 1) boths ks (by omega) hw.2.2.2.1 h7 (.inr ⟨e, _, rfl, hec⟩) (by omega) (by omega)
   have hI2 := z_da q base ao cap ls (at_ + 1 + p.flat.length) (at_ + 1 + p.flat.length + 1 + qq.flat.length) boths ks _ (by omega) hB2
   have hC := z_kA q base ao cap ls at_ (at_ + 1 + p.flat.length) (at_ + 1 + p.flat.length + 1 + qq.flat.length) boths ks _ _ (by omega) (by omega) hl h5 (by rw [h6]; exact hm7) (fun g c h => by have := z_cO h; omega) (fun g c h => by have := z_cO h; omega) hI1 hI2
   have hn9 : l.1 ≠ 9 := fun h => by rw [h] at hch; cases hch
   have hR : z_cu ks (decide (0 < boths)) (.two l p m qq e r) = z_gM (z_bA ks (decide (0 < boths)) p) (z_bA ks (decide (0 < boths)) qq) := by
    simp only [z_cu, z_gM, beq_eq_false_iff_ne.2 hn9, Bool.or_false, if_neg hn9]
    cases z_bA ks (decide (0 < boths)) p with
    | none => rfl
    | some x =>
     cases z_bA ks (decide (0 < boths)) qq with
     | none => rfl
     | some y => rfl
   rw [hR]
   exact z_eS q base ao cap ls at_ _ boths ks _ hl h1 (by rw [h2]; exact hch) hC
  ·have hd0 : decide (0 < boths + 1) = true := decide_eq_true (by omega)
   have hB1 := IH p _ (at_ + 1) (boths + 1) ks (by omega) hw.2.2.1 h3 (.inr ⟨m, _, rfl, hmc⟩) (by omega) (by omega)
   have hI1 := z_da q base ao cap ls at_ (at_ + 1 + p.flat.length) (boths + 1) ks _ (by omega) hB1
   have hB2 := IH qq _ (at_ + 1 + p.flat.length + 1) (boths + 1) ks (by omega) hw.2.2.2.1 h7 (.inr ⟨e, _, rfl, hec⟩) (by omega) (by omega)
   have hI2 := z_da q base ao cap ls (at_ + 1 + p.flat.length) (at_ + 1 + p.flat.length + 1 + qq.flat.length) (boths + 1) ks _ (by omega) hB2
   have hC := z_mU q base ao cap ls at_ (at_ + 1 + p.flat.length) (at_ + 1 + p.flat.length + 1 + qq.flat.length) boths ks _ _ p.flat qq.flat (by omega) h9 hl hcap (by omega) (fun g c h => by have := z_cO h; omega) (fun g c h => by have := z_cO h; omega) (by omega) (by omega) (z_ev h3 (by omega)) (z_ev h7 (by omega)) hz hI1 hI2
   rw [hd0] at hC
   have hR : z_cu ks (decide (0 < boths)) (.two l p m qq e r) = z_ml (z_bA ks true p) (z_bA ks true qq) (z_a5 p.flat qq.flat) := by
    simp only [z_cu, z_ml, hl9, BEq.rfl, Bool.or_true, if_true]
    cases z_bA ks true p with
    | none => rfl
    | some x =>
     cases z_bA ks true qq with
     | none => rfl
     | some y => rfl
   rw [hR]
   exact z_lC q base ao cap ls at_ _ boths ks _ hl h1 (by rw [h2]; exact hl9) hC
end
end Go.Proofs.YtlbjjbolbopfmaaGreatDoor
