import Derived.Test.YtlbjjbolbopfmaaGreatDoorH38
import Derived.Test.YtlbjjbolbopfmaaGreatDoorH35
import Derived.Deep.RegionHeld3
namespace Go.Proofs.YtlbjjbolbopfmaaGreatDoor
set_option maxHeartbeats 8000000
set_option maxRecDepth 1000000
set_option linter.unusedVariables false
section
open Go.RowKit
theorem wp_app_lines {w : World} {o : Oper} {a : Act} {K : Act → World → Prop} {Q : Exit → Act → World → Prop} (s x : Operand)
  (ho : o.op = .call { callee := .builtin .append, args := #[s, x], argTypes := #[27, 27] }) (base B : Nat) (v : Value) (ps : List (Ln × Value)) (hs : a.eval s = v) (hown : RowL base w v ps)
  (ao : Option Addr) (c : Nat) (ls : List Ln) (hx : a.eval x = .slice ao ls.length c) (hn : ao = none → c = 0) (hi : LinesAt B w ao ls) (hB : B ≤ base) (hl : ps.length + ls.length ≤ 8388608) (hbase : base ≤ w.heap.size)
  (h : ∀ v' w' qs, qs.map (·.1) = ls → RowL base w' v' (ps ++ qs) → w.grownBy w' v.ownBlock → (v'.ownBlock = v.ownBlock ∨ v'.ownBlock = some w.heap.size) → K (a.put o.dst v') w') : o.wp Tryz.prog a w K Q := by
 obtain ⟨i0, hi0, hz0, hz1, hz2⟩ := info_parts Tryz.infoLn
 obtain ⟨qs, hm, ha, hc⟩ := lines_rows hi
 have hql : qs.length = ls.length := by rw [← hm]; simp
 have hq : ∀ q ∈ qs, ArgG w.heap.size w v.ownBlock q := fun q hqm => (ha q hqm).lift (by omega) (fun k hk => by have := (hown.row.lt k hk).1; omega)
 cases ao with
 | none =>
  have hls : ls = [] := by
   cases ls with
   | nil => rfl
   | cons l r => obtain ⟨b, off, e, _⟩ := hi 0 (by simp); cases e
  subst hls
  have hqs : qs = [] := by simpa using hm
  subst hqs
  have hc0 := hn rfl
  subst hc0
  have hrun := run_append_owned_none (P := Tryz.prog) (w := w) base 27 o.type 49 i0 5 Tryz.underlying27 hi0 v ps.length _ hown.row
  have hx' : a.eval x = .slice none 0 0 := hx
  have hk := h v w [] rfl (by simpa using hown) grown_refl (.inl rfl)
  unfold Oper.wp
  simp [execOp, ho, resolve, invoke, builtin, hs, hx', hrun, Result.andThen]
  exact hk
 | some ad =>
  obtain ⟨v', w', hr, h2, h3, h4, h5⟩ := run_append_own_at (P := Tryz.prog) w base 27 o.type 49 i0 (.agg #[.int .i64 0, .string ⟨#[]⟩, .string ⟨#[]⟩, .slice none 0 0, .string ⟨#[]⟩]) 5 80 Tryz.underlying27 hi0 hz0 hz1 hz2 rfl (by decide) v ps.length _ hown.row ad ls.length c (qs.flatMap lnF)
   (by rw [flat_count lnF_len, hql]) (fun j u hj => by
    obtain ⟨b, off, e, _, hcell⟩ := hc j u hj
    obtain rfl : ad = ⟨b, off, none⟩ := Option.some.inj e
    have e2 : (⟨b, off, none⟩ : Addr).add j = ⟨b, off + j, none⟩ := by
     unfold Addr.add
     split
     ·rename_i h; subst h; rfl
     ·rfl
    rw [e2]; exact hcell) (lnF_one qs ha) (by unfold maxLen; omega) (by omega) hbase
  unfold Oper.wp execOp
  simp only [ho, resolve, invoke, builtin, Sem.run_bind, Sem.run_pure, Result.andThen_ok, List.map_toArray, List.map_cons, List.map_nil, hs, hx, hr]
  exact h v' w' qs hm (hown.app hq (by rw [hql]; exact h2) h3 h5) h3 h5
theorem app_lines_g {w : World} {ops : Array Oper} {rest : List Oper} {o : Oper} {a : Act} {Q : Exit → Act → World → Prop} (hw : Region.wanted o (yielded ops a.tmps) = true) (s x : Operand)
  (ho : o.op = .call { callee := .builtin .append, args := #[s, x], argTypes := #[27, 27] }) (base B : Nat) (v : Value) (ps : List (Ln × Value)) (hs : a.eval s = v) (hown : RowL base w v ps)
  (ao : Option Addr) (c : Nat) (ls : List Ln) (hx : a.eval x = .slice ao ls.length c) (hn : ao = none → c = 0) (hi : LinesAt B w ao ls) (hB : B ≤ base) (hl : ps.length + ls.length ≤ 8388608) (hbase : base ≤ w.heap.size)
  (h : ∀ v' w' qs, qs.map (·.1) = ls → RowL base w' v' (ps ++ qs) → w.grownBy w' v.ownBlock → (v'.ownBlock = v.ownBlock ∨ v'.ownBlock = some w.heap.size) → wpList Tryz.prog ops Q rest (a.put o.dst v') w') : wpList Tryz.prog ops Q (o :: rest) a w :=
 wpList_step fun K hK => by
  rw [if_pos hw]
  exact wp_app_lines s x ho base B v ps hs hown ao c ls hx hn hi hB hl hbase fun v' w' qs h1 h2 h3 h4 => hK _ _ (h v' w' qs h1 h2 h3 h4)
theorem step_app_lines {w : World} {ops : Array Oper} {o : Oper} {a : Act} {K : Act → World → Prop} {Q : Exit → Act → World → Prop} {E : Prop} (hgd : o.guard = none) (s x : Operand)
  (ho : o.op = .call { callee := .builtin .append, args := #[s, x], argTypes := #[27, 27] }) (base B : Nat) (v : Value) (ps : List (Ln × Value)) (hs : a.eval s = v) (hown : RowL base w v ps)
  (ao : Option Addr) (c : Nat) (ls : List Ln) (hx : a.eval x = .slice ao ls.length c) (hn : ao = none → c = 0) (hi : LinesAt B w ao ls) (hB : B ≤ base) (hl : ps.length + ls.length ≤ 8388608) (hbase : base ≤ w.heap.size)
  (h : ∀ v' w' qs, qs.map (·.1) = ls → RowL base w' v' (ps ++ qs) → w.grownBy w' v.ownBlock → (v'.ownBlock = v.ownBlock ∨ v'.ownBlock = some w.heap.size) → K (a.put o.dst v') w') : if Region.wanted o (yielded ops a.tmps) = true then Oper.wp Tryz.prog o a w K Q else E := by
 have hw : Region.wanted o (yielded ops a.tmps) = true := by simp [Region.wanted, hgd]
 rw [if_pos hw]
 exact wp_app_lines s x ho base B v ps hs hown ao c ls hx hn hi hB hl hbase h
theorem step_app_lines2 {w : World} {ops : Array Oper} {o : Oper} {a : Act} {K : Act → World → Prop} {Q : Exit → Act → World → Prop} {E : Prop} (hgd : o.guard = none) (s x : Operand)
  (ho : o.op = .call { callee := .builtin .append, args := #[s, x], argTypes := #[27, 27] }) (base B : Nat) (v : Value) (ps : List (Ln × Value)) (hs : a.eval s = v) (hown : RowL base w v ps)
  (ao : Option Addr) (c : Nat) (ls : List Ln) (n : Nat) (hln : ls.length = n) (hx : a.eval x = .slice ao n c) (hn : ao = none → c = 0) (hi : LinesAt B w ao ls) (hB : B ≤ base) (hl : ps.length + ls.length ≤ 8388608) (hbase : base ≤ w.heap.size)
  (h : ∀ v' w' qs, qs.map (·.1) = ls → RowL base w' v' (ps ++ qs) → w.grownBy w' v.ownBlock → (v'.ownBlock = v.ownBlock ∨ v'.ownBlock = some w.heap.size) → K (a.put o.dst v') w') : if Region.wanted o (yielded ops a.tmps) = true then Oper.wp Tryz.prog o a w K Q else E := by
 subst hln
 exact step_app_lines hgd s x ho base B v ps hs hown ao c ls hx hn hi hB hl hbase h
theorem step_app_lit {w : World} {ops : Array Oper} {o : Oper} {a : Act} {K : Act → World → Prop} {Q : Exit → Act → World → Prop} {E : Prop} (hgd : o.guard = none) (s x : Operand)
  (ho : o.op = .call { callee := .builtin .append, args := #[s, x], argTypes := #[27, 27] }) (base : Nat) (v : Value) (ps : List (Ln × Value)) (hs : a.eval s = v) (hown : RowL base w v ps)
  (n : Nat) (k : Int) (name : ByteArray) (hx : a.eval x = .slice (some ⟨n, 0, none⟩) 1 1) (hc : ∀ j u, (litC k name)[j]? = some u → w.cell? ((⟨n, 0, none⟩ : Addr).add j) = some u) (hl : ps.length + 1 ≤ 8388608) (hbase : base ≤ w.heap.size)
  (h : ∀ v' w', RowL base w' v' (ps ++ [(lnK k name, .slice none 0 0)]) → w.grownBy w' v.ownBlock → (v'.ownBlock = v.ownBlock ∨ v'.ownBlock = some w.heap.size) → K (a.put o.dst v') w') : if Region.wanted o (yielded ops a.tmps) = true then Oper.wp Tryz.prog o a w K Q else E := by
 have hw : Region.wanted o (yielded ops a.tmps) = true := by simp [Region.wanted, hgd]
 rw [if_pos hw]
 obtain ⟨i0, hi0, hz0, hz1, hz2⟩ := info_parts Tryz.infoLn
 obtain ⟨v', w', hr, h2, h3, h4, h5⟩ := run_append_own_at (P := Tryz.prog) w base 27 o.type 49 i0 (.agg #[.int .i64 0, .string ⟨#[]⟩, .string ⟨#[]⟩, .slice none 0 0, .string ⟨#[]⟩]) 5 80 Tryz.underlying27 hi0 hz0 hz1 hz2 rfl (by decide) v ps.length _ hown.row ⟨n, 0, none⟩ 1 1 (litC k name)
  rfl hc (fun u hu => by
   have hu' : u = .int .i64 k ∨ u = .string ⟨#[]⟩ ∨ u = .string name ∨ u = .slice none 0 0 ∨ u = .string ⟨#[]⟩ := by simpa [litC] using hu
   rcases hu' with rfl | rfl | rfl | rfl | rfl <;> rfl) (by unfold maxLen; omega) (by omega) hbase
 unfold Oper.wp execOp
 simp only [ho, resolve, invoke, builtin, Sem.run_bind, Sem.run_pure, Result.andThen_ok, List.map_toArray, List.map_cons, List.map_nil, hs, hx, hr]
 exact h v' w' (hown.app (qs := [(lnK k name, .slice none 0 0)]) (fun q hq => by
  have : q = (lnK k name, .slice none 0 0) := by simpa using hq
  subst this
  exact ArgG.bare _ rfl) h2 h3 h5) h3 h5
theorem swap_no2 {w w3 : World} {ls : List Ln} {f t : Int} {name : ByteArray} {ms : List Ln} (hb : Below w.heap.size w w3) (hn : ¬ SwapOk ls f t name ms) : SwapE w ls f t name ms (.returned (.tuple #[.slice (some ⟨w3.heap.size, 0, none⟩) 0 0, .bool false])) (w3.alloc (.cells #[] 49)) :=
 ⟨_, false, [], rfl, hb.alloc hb.size _, ⟨World.ownsRow_made w3 #[] 0 hb.size (by decide) rfl, fun p hp => absurd hp (by simp), List.Pairwise.nil⟩, .inl ⟨rfl, hn, rfl⟩⟩
theorem patchB_append (a b : List Ln) (name : ByteArray) : patchB (a ++ b) name = (patchB a name || patchB b name) := by unfold patchB; rw [List.any_append]
theorem flowCheckS_long2 (ao : Option Addr) (cap : Nat) (ls : List Ln) (w : World) (hcap : ls.length ≤ cap) (hl : 60 < ls.length) (hl2 : ls.length ≤ 4194304) :
  Calls Tryz.prog 31 #[.slice ao ls.length cap] w fun e w' => ∃ a b : Int, e = .returned (.agg #[.int .i64 a, .int .i64 b]) ∧ Below w.heap.size w w' ∧ CheckC b ls := by
 have HL : Hid (60 < ls.length) := hl
 go_enter Tryz.func31, Tryz.ntmps31
 go_wp2
 refine bodyPost_ret (v := .agg #[.int .i64 0, .int .i64 8]) (by simp [results, Tryz.results31, go_sem]) rfl ?_
 exact ⟨_, _, rfl, (Below.refl _ _).alloc (Nat.le_refl _) _, .inr ⟨by decide, .inl HL.out⟩⟩
theorem flowCheckS_any2 (ao : Option Addr) (cap : Nat) (ls : List Ln) (w : World) (hcap : ls.length ≤ cap) (hl : ls.length ≤ 4194304) (hi : LinesAt w.heap.size w ao ls) (hz : ∀ l ∈ ls, LnSz l) :
  Calls Tryz.prog 31 #[.slice ao ls.length cap] w fun e w' => ∃ a b : Int, e = .returned (.agg #[.int .i64 a, .int .i64 b]) ∧ Below w.heap.size w w' ∧ CheckC b ls := by
 by_cases h : 60 < ls.length
 ·exact flowCheckS_long2 ao cap ls w hcap h hl
 ·exact flowCheckS_any ao cap ls w hcap (by omega) hi hz
theorem l23Fits_any (ao : Option Addr) (cap : Nat) (q : List Ln) (w : World) (hcap : q.length ≤ cap) (hl : q.length ≤ 4194304) (hi : LinesAt w.heap.size w ao q) (hz : ∀ l ∈ q, LnSz l) :
  Calls Tryz.prog 51 #[.slice ao q.length cap] w fun e w' => ∃ (v : Value) (ok : Bool) (ps : List (Ln × Value)), e = .returned (.tuple #[v, .bool ok]) ∧ Below w.heap.size w w' ∧ OwnLn w.heap.size w' v ps ∧ ((ok = false ∧ ¬ CheckC 0 q ∧ ps = []) ∨ (ok = true ∧ CheckC 0 q ∧ ps.map (·.1) = q)) := by
 have HI : Hid (LinesAt w.heap.size w ao q) := hi
 have HZ : Hid (∀ l ∈ q, LnSz l) := hz
 have hfld : ∀ (a b : Int) (w : World), (Instr.field 43 (.agg #[.int .i64 a, .int .i64 b]) 1).run Tryz.prog w = .ok (.int .i64 b) w := Tryz.fieldCode2
 clear hi hz
 go_enter Tryz.func51, Tryz.ntmps51
 go_wp2_with fail
 refine (flowCheckS_any2 ao cap q w hcap hl HI.out HZ.out).mono ?_
 rintro e w1 ⟨fa, fb, rfl, hb1, hck⟩
 have HB1 : Hid (Below w.heap.size w w1) := hb1
 clear hb1
 by_cases hz0 : fb = 0
 ·subst hz0
  have HQ0 : Hid (CheckC 0 q) := hck
  have hq60 := checkC_len hck
  clear hck
  go_wp2_with (go_at_call 49; refine (l23Lines_any ao cap q _ (by omega) HZ.out (HI.out.later HB1.out)).mono ?_; rintro e w2 ⟨v2, ps2, rfl, hb2, hm2, ho2⟩; have HB2 : Hid (Below w.heap.size w w2) := HB1.out.trans (hb2.mono HB1.out.size); have HM2 : Hid (ps2.map (·.1) = q) := hm2; have HO2 : Hid (OwnLn w.heap.size w2 v2 ps2) := ho2.mono HB1.out.size; clear hb2 hm2 ho2)
  go_ret2
  exact ⟨v2, true, ps2, rfl, HB2.out, HO2.out, .inr ⟨rfl, HQ0.out, HM2.out⟩⟩
 ·have hbz : (fb != 0) = true := by simpa using hz0
  have HN : Hid (¬ CheckC 0 q) := check_no hck hz0
  have HO : Hid (OwnLn w.heap.size (w1.alloc (.cells #[] 49)) (.slice (some ⟨w1.heap.size, 0, none⟩) 0 0) []) := ⟨World.ownsRow_made w1 #[] 0 HB1.out.size (by decide) rfl, fun p hp => absurd hp (by simp), List.Pairwise.nil⟩
  clear hck
  go_wp2
  go_ret2
  exact ⟨_, false, [], rfl, HB1.out.alloc HB1.out.size _, HO.out, .inl ⟨rfl, HN.out, rfl⟩⟩
end
section
open Go.RowKit
set_option linter.unusedSimpArgs false
theorem swapS_a (b off cap f t : Nat) (bo : Option Addr) (cb : Nat) (ls ms : List Ln) (name : ByteArray) (w : World) (hcap : ls.length ≤ cap) (hf : 1 ≤ f) (hft : f ≤ t) (ht : t ≤ ls.length) (hl : ls.length ≤ 1048576) (hl2 : ms.length ≤ 1048576) (hcx : t < cap) (hlt : f < t)
  (hnb : bo = none → cb = 0) (hname : name.size ≤ 1048576) (hz : ∀ l ∈ ls, LnSz l) (hzm : ∀ l ∈ ms, LnSz l) (hi : LinesAt w.heap.size w (some ⟨b, off, none⟩) ls) (hj : LinesAt w.heap.size w bo ms) (h0 : CheckC 0 ls) :
  Calls Tryz.prog 20 #[.slice (some ⟨b, off, none⟩) ls.length cap, .int .i64 f, .int .i64 t, .string name, .slice bo ms.length cb] w (SwapE w ls f t name ms) := by
 have HI : Hid (LinesAt w.heap.size w (some ⟨b, off, none⟩) ls) := hi
 have HJ : Hid (LinesAt w.heap.size w bo ms) := hj
 have HZ : Hid (∀ l ∈ ls, LnSz l) := hz
 have HZ2 : Hid (∀ l ∈ ms, LnSz l) := hzm
 have H0 : Hid (CheckC 0 ls) := h0
 have HNB : Hid (bo = none → cb = 0) := hnb
 have hls60 := checkC_len h0
 clear hi hj hz hzm h0 hnb
 have hin1 : (decide ((1 : Int) ≤ (f : Nat)) && decide (((f : Nat) : Int) ≤ ls.length)) = true := by simp; omega
 have hin2 : (decide (((f : Nat) : Int) ≤ (t : Nat)) && decide (((t : Nat) : Int) ≤ ls.length)) = true := by simp; omega
 have hfld : ∀ (a b : Int) (w : World), (Instr.field 43 (.agg #[.int .i64 a, .int .i64 b]) 1).run Tryz.prog w = .ok (.int .i64 b) w := Tryz.fieldCode2
 have HBt : Hid (LinesAt w.heap.size w (some ⟨b, off + f * 5, none⟩) (betw f t ls)) := (HI.out.drop f).take (t - f)
 have HXT : Hid (LinesAt w.heap.size w (some ⟨b, off + t * 5, none⟩) (ls.drop t)) := HI.out.drop t
 have HX : Hid (∀ W, Below w.heap.size w W → Calls Tryz.prog 50 #[.slice (some ⟨b, off + f * 5, none⟩) (t - f) (cap - f)] W fun e w' => e = .returned (.bool (evenB (betw f t ls))) ∧ Below W.heap.size W w') := fun W hb => by
  have h := l23Even_any (some ⟨b, off + f * 5, none⟩) (cap - f) (betw f t ls) W (by rw [betw_len f t ls hft ht]; omega) (HBt.out.later hb)
  rw [betw_len f t ls hft ht] at h
  exact h
 have HLT : Hid (∀ W, Below w.heap.size w W → Calls Tryz.prog 49 #[.slice (some ⟨b, off, none⟩) f cap] W fun e w' => ∃ (v : Value) (ps : List (Ln × Value)), e = .returned v ∧ Below W.heap.size W w' ∧ ps.map (·.1) = ls.take f ∧ OwnLn W.heap.size w' v ps) := fun W hb => by
  have h := l23Lines_any (some ⟨b, off, none⟩) cap (ls.take f) W (by rw [List.length_take]; omega) (fun l hl => HZ.out l (List.mem_of_mem_take hl)) ((HI.out.take f).later hb)
  rw [show (ls.take f).length = f by rw [List.length_take]; omega] at h
  exact h
 have hbl : (betw f t ls).length ≤ 60 := by rw [betw_len f t ls hft ht]; omega
 have hdl : (ls.drop t).length ≤ 60 := by rw [List.length_drop]; omega
 have i0 : (0 : Int) ≤ (f : Nat) := by omega
 have i1 : ((f : Nat) : Int) ≤ (t : Nat) := by omega
 have i2 : ((t : Nat) : Int) ≤ (cap : Nat) := by omega
 have i3 : ((t : Nat) : Int) ≤ (ls.length : Int) := by omega
 have i4 : (ls.length : Int) ≤ (cap : Nat) := by omega
 have i5 : (0 : Int) ≤ (t : Nat) := by omega
 have n1 : ¬ cap = f := by omega
 have n2 : ¬ cap = t := by omega
 go_enter Tryz.func20, Tryz.ntmps20
 go_wp2_with fail
 refine (flowCheckS_any (some ⟨b, off, none⟩) cap ls w hcap hl HI.out HZ.out).mono ?_
 rintro e w1 ⟨fa, fb, rfl, hbl, hck⟩
 have hfb : fb = 0 := (checkC_same H0.out hck).1 rfl
 subst hfb
 have HB1 : Hid (Below w.heap.size w w1) := hbl
 clear hbl hck
 have HOk : Hid (CheckC 0 (swapLs f t name ls ms) → evenB (betw f t ls) = true → evenB ms = true → patchB (ls ++ ms) name = false → SwapOk ls f t name ms) := fun h h1 h2 h3 => by
  rw [patchB_append, Bool.or_eq_false_iff] at h3
  exact ⟨H0.out, by omega, by omega, by omega, by simpa using h1, h2, h3.1, h3.2, by simpa using h⟩
 have HNo : Hid (SwapOk ls f t name ms → CheckC 0 (swapLs f t name ls ms) ∧ evenB (betw f t ls) = true ∧ evenB ms = true ∧ patchB (ls ++ ms) name = false) := fun h => by
  obtain ⟨_, _, _, _, h1, h2, h3, h4, h5⟩ := h
  exact ⟨by simpa using h5, by simpa using h1, h2, by rw [patchB_append, h3, h4]; rfl⟩
 cases hp : patchB (ls ++ ms) name with
 | true =>
  have HN : Hid (¬ SwapOk ls f t name ms) := fun h => by have := (HNo.out h).2.2.2; rw [hp] at this; cases this
  go_wp2_with (first
  | (go_at_call 47; refine (l1In_any _ _ _ _).mono ?_; rintro e w1 ⟨rfl, rfl⟩; first | rw [hin1] | rw [hin2])
  | (go_at_call 49; refine (l23Lines_any (some ⟨b, off, none⟩) cap ls _ hl HZ.out (HI.out.later HB1.out)).mono ?_; rintro e w2 ⟨v2, ps2, rfl, hb2, hm2, ho2⟩; have HB2 : Hid (Below w.heap.size w w2) := HB1.out.trans (hb2.mono HB1.out.size); have HM2 : Hid (ps2.map (·.1) = ls) := hm2; have HR2 : Hid (RowL w.heap.size w2 v2 ps2) := own_rowL (ho2.mono HB1.out.size); have hq2 : ps2.length ≤ 60 := len_map hm2 hls60; clear hb2 hm2 ho2)
  | (at_builtin; (refine app_lines_g rfl _ _ rfl w.heap.size w.heap.size v2 _ rfl HR2.out bo cb ms rfl HNB.out ((HJ.out).below HB2.out) (Nat.le_refl _) (by first | omega | (simp; omega)) HB2.out.size ?_; intro v3 w3 qs3 hm3 hr3 hg3 ho3; have HB3 : Hid (Below w.heap.size w w3) := app_below HB2.out HR2.out.row hg3 HB2.out.size; have HR3 : Hid (RowL w.heap.size w3 v3 (ps2 ++ qs3)) := hr3; have HM3 : Hid (qs3.map (·.1) = ms) := hm3; have hq3 : qs3.length ≤ 1048576 := len_map hm3 (by first | omega | (rw [betw_len f t ls hft ht]; omega) | (rw [List.length_drop]; omega)); clear hm3 hr3 hg3 ho3))
  | (go_at_call 48; obtain ⟨ao3, c3, hv3, hc3, hl3⟩ := HR3.out.lines; rw [List.map_append, HM2.out, HM3.out] at hl3; have hln : (ps2 ++ qs3).length = (ls ++ ms).length := (by rw [← HM2.out, ← HM3.out]; simp); rw [hln] at hv3; subst hv3; refine (l23New_any ao3 c3 (ls ++ ms) name _ (by simp; omega) hl3).mono ?_; rintro e w3 ⟨rfl, rfl⟩; rw [hp]; clear hc3 hl3 hln))
  go_ret2
  exact swap_no2 HB3.out HN.out
 | false =>
 have HPF : Hid (patchB (ls ++ ms) name = false) := hp
 go_wp2_with (first
  | (go_at_call 47; refine (l1In_any _ _ _ _).mono ?_; rintro e w1 ⟨rfl, rfl⟩; first | rw [hin1] | rw [hin2])
  | (go_at_call 49; refine (l23Lines_any (some ⟨b, off, none⟩) cap ls _ hl HZ.out (HI.out.later HB1.out)).mono ?_; rintro e w2 ⟨v2, ps2, rfl, hb2, hm2, ho2⟩; have HB2 : Hid (Below w.heap.size w w2) := HB1.out.trans (hb2.mono HB1.out.size); have HM2 : Hid (ps2.map (·.1) = ls) := hm2; have HR2 : Hid (RowL w.heap.size w2 v2 ps2) := own_rowL (ho2.mono HB1.out.size); have hq2 : ps2.length ≤ 60 := len_map hm2 hls60; clear hb2 hm2 ho2)
  | (at_builtin; (refine app_lines_g rfl _ _ rfl w.heap.size w.heap.size v2 _ rfl HR2.out bo cb ms rfl HNB.out ((HJ.out).below HB2.out) (Nat.le_refl _) (by first | omega | (simp; omega)) HB2.out.size ?_; intro v3 w3 qs3 hm3 hr3 hg3 ho3; have HB3 : Hid (Below w.heap.size w w3) := app_below HB2.out HR2.out.row hg3 HB2.out.size; have HR3 : Hid (RowL w.heap.size w3 v3 (ps2 ++ qs3)) := hr3; have HM3 : Hid (qs3.map (·.1) = ms) := hm3; have hq3 : qs3.length ≤ 1048576 := len_map hm3 (by first | omega | (rw [betw_len f t ls hft ht]; omega) | (rw [List.length_drop]; omega)); clear hm3 hr3 hg3 ho3))
  | (go_at_call 48; obtain ⟨ao3, c3, hv3, hc3, hl3⟩ := HR3.out.lines; rw [List.map_append, HM2.out, HM3.out] at hl3; have hln : (ps2 ++ qs3).length = (ls ++ ms).length := (by rw [← HM2.out, ← HM3.out]; simp); rw [hln] at hv3; subst hv3; refine (l23New_any ao3 c3 (ls ++ ms) name _ (by simp; omega) hl3).mono ?_; rintro e w3 ⟨rfl, rfl⟩; rw [hp]; clear hc3 hl3 hln))
 clear hp HM2 HR2 HB2 HM3 HR3 hq2 hq3
 refine Calls.mono (HX.out w3 HB3.out) ?_
 rintro e w4 ⟨rfl, hb4⟩
 have HB4 : Hid (Below w.heap.size w w4) := HB3.out.trans (hb4.mono HB3.out.size)
 clear hb4
 cases e1 : evenB (betw f t ls) with
 | false =>
  have HN : Hid (¬ SwapOk ls f t name ms) := fun h => by have := (HNo.out h).2.1; rw [e1] at this; cases this
  go_wp2
  go_ret2
  exact swap_no2 HB4.out HN.out
 | true =>
 go_wp2_with fail
 refine (l23Even_any bo cb ms w4 (by omega) (HJ.out.later HB4.out)).mono ?_
 rintro e w5 ⟨rfl, hb5⟩
 have HB5 : Hid (Below w.heap.size w w5) := HB4.out.trans (hb5.mono HB4.out.size)
 clear hb5
 cases e2 : evenB ms with
 | false =>
  have HN : Hid (¬ SwapOk ls f t name ms) := fun h => by have := (HNo.out h).2.2.1; rw [e2] at this; cases this
  go_wp2
  go_ret2
  exact swap_no2 HB5.out HN.out
 | true =>
 have HE1 : Hid (evenB (betw f t ls) = true) := e1
 have HE2 : Hid (evenB ms = true) := e2
 clear e1 e2 HX
 go_wp2_with fail
 refine Calls.mono (HLT.out w5 HB5.out) ?_
 rintro e w6 ⟨v6, ps6, rfl, hb6, hm6, ho6⟩
 have HB6 : Hid (Below w.heap.size w w6) := HB5.out.trans (hb6.mono HB5.out.size)
 have HM6 : Hid (ps6.map (·.1) = ls.take f) := hm6
 have HR6 : Hid (RowL w.heap.size w6 v6 ps6) := own_rowL (ho6.mono HB5.out.size)
 have hq6 : ps6.length ≤ 60 := len_map hm6 (by rw [List.length_take]; omega)
 clear hb6 hm6 ho6 HLT
 go_wp2_with (at_builtin; first
  | (refine app_lit rfl _ _ rfl w.heap.size v6 _ rfl (HR6.out.below ((Below.refl w6.heap.size w6).alloc (Nat.le_refl _) _)) w6.heap.size 14 name rfl (lit_cells w6 14 name) (by simp; omega) (by have := HB6.out.size; simp; omega) ?_; intro v7 w7 hr7 hg7 ho7; have HB7 : Hid (Below w.heap.size w w7) := app_below (HB6.out.alloc HB6.out.size _) (own_below HR6.out.row ((Below.refl w6.heap.size w6).alloc (Nat.le_refl _) _)) hg7 (by have := HB6.out.size; simp; omega); have HR7 : Hid (RowL w.heap.size w7 v7 (ps6 ++ [(lnK 14 name, Value.slice none 0 0)])) := hr7; clear hr7 hg7 ho7)
  | (refine app_lines rfl _ _ rfl w.heap.size w.heap.size v7 _ rfl HR7.out bo cb ms rfl HNB.out ((HJ.out).below HB7.out) (Nat.le_refl _) (by first | omega | (simp; omega)) HB7.out.size ?_; intro v8 w8 qs8 hm8 hr8 hg8 ho8; have HB8 : Hid (Below w.heap.size w w8) := app_below HB7.out HR7.out.row hg8 HB7.out.size; have HR8 : Hid (RowL w.heap.size w8 v8 ((ps6 ++ [(lnK 14 name, Value.slice none 0 0)]) ++ qs8)) := hr8; have HM8 : Hid (qs8.map (·.1) = ms) := hm8; have hq8 : qs8.length ≤ 1048576 := len_map hm8 (by first | omega | (rw [betw_len f t ls hft ht]; omega) | (rw [List.length_drop]; omega)); clear hm8 hr8 hg8 ho8))
 have HMAP : Hid (∀ (qs10 qs12 : List (Ln × Value)), qs10.map (·.1) = betw f t ls → qs12.map (·.1) = ls.drop t → ((((((ps6 ++ [(lnK 14 name, Value.slice none 0 0)]) ++ qs8) ++ [(lnK 7 ⟨#[]⟩, Value.slice none 0 0)]) ++ qs10) ++ [(lnK 11 ⟨#[]⟩, Value.slice none 0 0)]) ++ qs12).map (·.1) = swapLs f t name ls ms) := fun qs10 qs12 h10 h12 => by
  simp only [List.map_append, List.map_cons, List.map_nil, HM6.out, HM8.out, h10, h12, swapLs, patchLs, betw_len f t ls hft ht]
  rw [if_pos (by omega)]
  simp
 go_region_held3 (fun _ => True) (trivial) (first
  | (refine step_app_lit rfl _ _ rfl w.heap.size v8 _ rfl (HR8.out.below ((Below.refl w8.heap.size w8).alloc (Nat.le_refl _) _).drew) w8.heap.size 7 ⟨#[]⟩ rfl (lit_cells w8 7 ⟨#[]⟩) (by simp; omega) (by have := HB8.out.size; simp; omega) ?_; intro v9 w9 hr9 hg9 ho9; have HB9 : Hid (Below w.heap.size w w9) := app_below (HB8.out.alloc HB8.out.size _).drew (own_below HR8.out.row ((Below.refl w8.heap.size w8).alloc (Nat.le_refl _) _).drew) hg9 (by have := HB8.out.size; simp; omega); have HR9 : Hid (RowL w.heap.size w9 v9 (((ps6 ++ [(lnK 14 name, Value.slice none 0 0)]) ++ qs8) ++ [(lnK 7 ⟨#[]⟩, Value.slice none 0 0)])) := hr9; clear hr9 hg9 ho9)
  | (refine step_app_lines2 rfl _ _ rfl w.heap.size w.heap.size v9 _ rfl HR9.out (some ⟨b, off + f * 5, none⟩) (cap - f) (betw f t ls) _ (betw_len f t ls hft ht) rfl (fun h => by cases h) ((HBt.out).below HB9.out) (Nat.le_refl _) (by first | omega | (simp; omega)) HB9.out.size ?_; intro v10 w10 qs10 hm10 hr10 hg10 ho10; have HB10 : Hid (Below w.heap.size w w10) := app_below HB9.out HR9.out.row hg10 HB9.out.size; have HR10 : Hid (RowL w.heap.size w10 v10 ((((ps6 ++ [(lnK 14 name, Value.slice none 0 0)]) ++ qs8) ++ [(lnK 7 ⟨#[]⟩, Value.slice none 0 0)]) ++ qs10)) := hr10; have HM10 : Hid (qs10.map (·.1) = (betw f t ls)) := hm10; have hq10 : qs10.length ≤ 1048576 := len_map hm10 (by first | omega | (rw [betw_len f t ls hft ht]; omega) | (rw [List.length_drop]; omega)); clear hm10 hr10 hg10 ho10))
 go_wp2_with fail
 go_region_held3 (fun _ => True) (trivial) (first
  | (refine step_app_lit rfl _ _ rfl w.heap.size v10 _ rfl (HR10.out.below ((Below.refl w10.heap.size w10).alloc (Nat.le_refl _) _).drew) w10.heap.size 11 ⟨#[]⟩ rfl (lit_cells w10 11 ⟨#[]⟩) (by simp; omega) (by have := HB10.out.size; simp; omega) ?_; intro v11 w11 hr11 hg11 ho11; have HB11 : Hid (Below w.heap.size w w11) := app_below (HB10.out.alloc HB10.out.size _).drew (own_below HR10.out.row ((Below.refl w10.heap.size w10).alloc (Nat.le_refl _) _).drew) hg11 (by have := HB10.out.size; simp; omega); have HR11 : Hid (RowL w.heap.size w11 v11 (((((ps6 ++ [(lnK 14 name, Value.slice none 0 0)]) ++ qs8) ++ [(lnK 7 ⟨#[]⟩, Value.slice none 0 0)]) ++ qs10) ++ [(lnK 11 ⟨#[]⟩, Value.slice none 0 0)])) := hr11; clear hr11 hg11 ho11)
  | (refine step_app_lines2 rfl _ _ rfl w.heap.size w.heap.size v11 _ rfl HR11.out (some ⟨b, off + t * 5, none⟩) (cap - t) (ls.drop t) _ List.length_drop rfl (fun h => by cases h) ((HXT.out).below HB11.out) (Nat.le_refl _) (by first | omega | (simp; omega)) HB11.out.size ?_; intro v12 w12 qs12 hm12 hr12 hg12 ho12; have HB12 : Hid (Below w.heap.size w w12) := app_below HB11.out HR11.out.row hg12 HB11.out.size; have HR12 : Hid (RowL w.heap.size w12 v12 ((((((ps6 ++ [(lnK 14 name, Value.slice none 0 0)]) ++ qs8) ++ [(lnK 7 ⟨#[]⟩, Value.slice none 0 0)]) ++ qs10) ++ [(lnK 11 ⟨#[]⟩, Value.slice none 0 0)]) ++ qs12)) := hr12; have HM12 : Hid (qs12.map (·.1) = (ls.drop t)) := hm12; have hq12 : qs12.length ≤ 1048576 := len_map hm12 (by first | omega | (rw [betw_len f t ls hft ht]; omega) | (rw [List.length_drop]; omega)); clear hm12 hr12 hg12 ho12)
  | (go_at_call 51; obtain ⟨ao9, c9, hv9, hc9, hl9⟩ := HR12.out.lines; have hm9 := HMAP.out qs10 qs12 HM10.out HM12.out; rw [hm9] at hl9; have hln : ((((((ps6 ++ [(lnK 14 name, Value.slice none 0 0)]) ++ qs8) ++ [(lnK 7 ⟨#[]⟩, Value.slice none 0 0)]) ++ qs10) ++ [(lnK 11 ⟨#[]⟩, Value.slice none 0 0)]) ++ qs12).length = (swapLs f t name ls ms).length := (by rw [← hm9, List.length_map]); rw [hln] at hv9 hc9; subst hv9; refine (l23Fits_any ao9 c9 (swapLs f t name ls ms) _ hc9 (by have := swapLs_len f t name ls ms; omega) hl9 (swapLs_mem HZ.out HZ2.out (fun k => lnK_sz hname) (fun k => lnK_sz (Nat.zero_le _)))).mono ?_; rintro e w13 ⟨v13, ok13, ps13, rfl, hb13, ho13, hres⟩; have HB13 : Hid (Below w.heap.size w w13) := HB12.out.trans (hb13.mono HB12.out.size); have HO13 : Hid (OwnLn w.heap.size w13 v13 ps13) := ho13.mono HB12.out.size; have HRes := (show Hid _ from hres); clear hb13 ho13 hres hc9 hl9 hln hm9))
 go_wp2
 go_ret2
 refine ⟨v13, ok13, ps13, rfl, HB13.out, HO13.out, ?_⟩
 rcases HRes.out with ⟨h1, h2, h3⟩ | ⟨h1, h2, h3⟩
 ·exact .inl ⟨h1, fun h => h2 (HNo.out h).1, h3⟩
 ·exact .inr ⟨h1, HOk.out h2 HE1.out HE2.out HPF.out, by simpa using h3⟩
end
end Go.Proofs.YtlbjjbolbopfmaaGreatDoor
