import Derived.Test.YtlbjjbolbopfmaaGreatDoorJ11
import Derived.Test.YtlbjjbolbopfmaaGreatDoorJ19
import Derived.Test.YtlbjjbolbopfmaaGreatDoorJ20
import Derived.Test.YtlbjjbolbopfmaaGreatDoorJ03
import Derived.BigQuiet
import Derived.Deep.QuietTactic
import Derived.Test.YtlbjjbolbopfmaaGreatDoorJ06
import Derived.Test.YtlbjjbolbopfmaaGreatDoorJ10
namespace Go.Proofs.YtlbjjbolbopfmaaGreatDoor
set_option maxHeartbeats 2000000
set_option maxRecDepth 1000000
set_option linter.unusedVariables false
section
open Go.RowKit
def z_bV (b : Int) (ls : List Ln) : Prop :=
 (b = 0 ∧ ls.length ≤ 60 ∧ standB ls backL ∧ ∃ l0 t, ls = l0 :: t.flat ∧ t.wf ∧ z_bC l0 t = true)
 ∨ (b ≠ 0 ∧ (60 < ls.length ∨ ¬ standB ls backL ∨ ∃ l0 t, ls = l0 :: t.flat ∧ t.wf ∧ z_bC l0 t = false))
theorem z_fI (ao : Option Addr) (cap : Nat) (ls : List Ln) (w : World) (hcap : ls.length ≤ cap) (hl : 60 < ls.length) (hl2 : ls.length ≤ 1048576) :
  Calls Tryz.prog 27 #[.slice ao ls.length cap] w fun e w' => ∃ a b : Int, e = .returned (.agg #[.int .i64 a, .int .i64 b]) ∧ Below w.heap.size w w' ∧ z_bV b ls := by
 have HL : Hid (60 < ls.length) := hl
 go_enter Tryz.func27, Tryz.ntmps27
 go_wp2
 refine bodyPost_ret (v := .agg #[.int .i64 0, .int .i64 8]) (by simp [results, Tryz.results27, go_sem]) rfl ?_
 exact ⟨_, _, rfl, (Below.refl _ _).alloc (Nat.le_refl _) _, .inr ⟨by decide, .inl HL.out⟩⟩
theorem z_fd {w w1 : World} {o : Obj} (h : Below (w.alloc o).heap.size (w.alloc o) w1) : Below (w.heap.size + 1) (w.alloc o) w1 := by simpa using h
theorem z_nF {w w1 : World} (h : Below (w.heap.size + 1) (w.alloc (.cells #[.int .i64 0, .int .i64 0] 43)) w1) (o : Obj) :
  (w1.alloc o).cell? ⟨w.heap.size, 0, none⟩ = some (.int .i64 0) ∧ (w1.alloc o).cell? ⟨w.heap.size, 1, none⟩ = some (.int .i64 0) ∧ (w1.alloc o).frozen? ⟨w.heap.size, 0, none⟩ = false ∧ (w1.alloc o).frozen? ⟨w.heap.size, 1, none⟩ = false := by
 have h2 := h.alloc (by have := h.size; simpa using this) o
 exact ⟨(h2.cell (p := ⟨w.heap.size, 0, none⟩) (Nat.lt_succ_self _)).trans (by simp), (h2.cell (p := ⟨w.heap.size, 1, none⟩) (Nat.lt_succ_self _)).trans (by simp), (h2.frozen (p := ⟨w.heap.size, 0, none⟩) (Nat.lt_succ_self _)).trans (by simp), (h2.frozen (p := ⟨w.heap.size, 1, none⟩) (Nat.lt_succ_self _)).trans (by simp)⟩
structure AsD (w : World) (n : Nat) (w3 : World) (ln c : Int) : Prop where
 nz : c ≠ 0
 c0 : w3.cell? ⟨n, 0, none⟩ = some (.int .i64 ln)
 c1 : w3.cell? ⟨n, 1, none⟩ = some (.int .i64 c)
 r0 : w3.cell? ⟨w.heap.size, 0, none⟩ = some (.int .i64 0)
 r1 : w3.cell? ⟨w.heap.size, 1, none⟩ = some (.int .i64 0)
 f0 : w3.frozen? ⟨w.heap.size, 0, none⟩ = false
 f1 : w3.frozen? ⟨w.heap.size, 1, none⟩ = false
 below : Below w.heap.size w w3
theorem z_jx (er : Value) (w W : World) (n : Nat) (hn : n = W.heap.size) (he : ErrC er) (hv : Env w) (hb : Below (w.heap.size + 1) (w.alloc (.cells #[.int .i64 0, .int .i64 0] 43)) W) :
  Calls Tryz.prog 63 #[er, .iface 98 (.pointer (some ⟨n, 0, none⟩))] (W.alloc (.cells #[.int .i64 0, .int .i64 0] 96)) fun e w3 => e = .returned (.bool true) ∧ ∃ ln c, AsD w n w3 ln c := by
 subst hn
 have hs : w.heap.size + 1 ≤ W.heap.size := by have := hb.size; simpa using this
 have hbw : Below w.heap.size w W := ((Below.refl _ _).alloc (Nat.le_refl _) _).trans (hb.mono (Nat.le_succ _))
 have hw1 : Below w.heap.size w (W.alloc (.cells #[.int .i64 0, .int .i64 0] 96)) := hbw.alloc hbw.size _
 refine (z_iF er W.heap.size _ he (hv.later hw1) (by simp) (by simp) (by simp [go_sem]) (by simp [go_sem])).mono ?_
 rintro e w3 ⟨rfl, ⟨ln, c, hc, k0, k1⟩, hg⟩
 have hr : w3.heap[w.heap.size]? = (w.alloc (.cells #[.int .i64 0, .int .i64 0] 43)).heap[w.heap.size]? := by
  rw [hg.block w.heap.size (by simp; omega) (by simp; omega), Below.heap_alloc _ _ _ (by omega), hb.block w.heap.size (by omega)]
 refine ⟨rfl, ln, c, hc, k0, k1, (World.cell?_of_block hr).trans (by simp), (World.cell?_of_block hr).trans (by simp), (World.frozen?_of_block hr).trans (by simp [go_sem]), (World.frozen?_of_block hr).trans (by simp [go_sem]), ?_⟩
 exact hw1.grown hg hw1.size (fun k hk => by cases hk; exact hbw.size)
theorem z_g9 (ao : Option Addr) (cap : Nat) (w : World) (he : Env w) :
  Calls Tryz.prog 27 #[.slice ao 0 cap] w fun e w' => ∃ a b : Int, e = .returned (.agg #[.int .i64 a, .int .i64 b]) ∧ Below w.heap.size w w' ∧ z_bV b [] := by
 have HE : Hid (Env w) := he
 clear he
 go_enter Tryz.func27, Tryz.ntmps27
 go_wp2_with (first | (go_at_call 61; refine (z_d2 ao cap _).mono ?_; rintro e w1 ⟨v, rfl, hv, rfl⟩; have HV : Hid (ErrC v) := .base v hv; obtain ⟨x, y, rfl, _⟩ := hv) | (go_at_call 63; refine (z_jx _ w _ _ (by simp) HV.out HE.out (Below.refl _ _)).mono ?_; rintro e w3 ⟨rfl, ln, c, hd⟩; have HD : Hid (AsD _ _ _ _ _) := hd; obtain ⟨_, c0, c1, r0, r1, f0, f1, _⟩ := hd))
 refine bodyPost_ret (v := .agg #[.int .i64 ln, .int .i64 c]) (by simp [results, Tryz.results27, go_sem, r0, r1]) rfl ?_
 exact ⟨_, _, rfl, (HD.out.below.setCell (Nat.le_refl _) _).setCell (Nat.le_refl _) _, .inr ⟨HD.out.nz, .inr (.inl fun h => h.1 rfl)⟩⟩
theorem z_mc {k : Int} {d : Bd} (h : z_br k d = true) : d.args.length ≤ 3 := by
 unfold z_br at h
 rw [Bool.and_eq_true] at h
 obtain ⟨_, h⟩ := h
 split at h
 ·cases h
 ·split at h
  ·cases h
  ·rename_i d' hr
   have hg := z_lW hr
   have := hg.args3
   simp [z_a0] at h
   rw [h.2]; exact this
theorem z_hU (ao : Option Addr) (cap : Nat) (ls : List Ln) (l0 : Ln) (t : Bl) (hls : ls = l0 :: t.flat) (w : World) (hl : ls.length ≤ 60) (hcap : ls.length ≤ cap) (hw : t.wf) (h0 : l0.2.args.length ≤ 100) (hz : ∀ l ∈ ls, LnSz l) (hi : LinesAt w.heap.size w ao ls) (he : Env w) :
  Calls Tryz.prog 62 #[.slice ao ls.length cap] w fun e w' => ∃ v, e = .returned v ∧ Below w.heap.size w w' ∧ ((v = .nilIface ∧ z_bC l0 t = true) ∨ (ErrC v ∧ z_bC l0 t = false)) := by
 subst hls
 exact z_e3 ao cap l0 t w hl hcap hw h0 hz hi he
theorem z_fQ (ao : Option Addr) (cap : Nat) (ls : List Ln) (w : World) (h0 : 0 < ls.length) (hcap : ls.length ≤ cap) (hl : ls.length ≤ 60) (hi : LinesAt w.heap.size w ao ls) (hz : ∀ l ∈ ls, LnSz l) (he : Env w) :
  Calls Tryz.prog 27 #[.slice ao ls.length cap] w fun e w' => ∃ a b : Int, e = .returned (.agg #[.int .i64 a, .int .i64 b]) ∧ Below w.heap.size w w' ∧ z_bV b ls := by
 have HE : Hid (Env w) := he
 have HI : Hid (LinesAt w.heap.size w ao ls) := hi
 have HZ : Hid (∀ l ∈ ls, LnSz l) := hz
 have HA : Hid (Below (w.heap.size + 1) (w.alloc (.cells #[.int .i64 0, .int .i64 0] 43)) (w.alloc (.cells #[.int .i64 0, .int .i64 0] 43))) := Below.refl _ _
 have HS0 : Hid (Below w.heap.size w (w.alloc (.cells #[.int .i64 0, .int .i64 0] 43))) := (Below.refl _ _).alloc (Nat.le_refl _) _
 clear he hi hz
 have hgt : (ls.length : Int) ≤ 60 := by omega
 by_cases hst : standB ls backL
 ·obtain ⟨l0, t, hls, hk, hw⟩ := z_jW ls hst.1 hst.2.2
  have HLS : Hid (ls = l0 :: t.flat) := hls
  have HST : Hid (standB ls backL) := hst
  have HA3 : Hid (l0.2.args.length ≤ 100) := by have := z_mc (hst.2.1 l0 (by simp [hls])); show _ ≤ _; omega
  have HL : Hid (ls.length ≤ 60) := hl
  clear hst hk hls
  cases hc : z_bC l0 t with
  | false =>
   have HC : Hid (z_bC l0 t = false) := hc
   clear hc
   go_enter Tryz.func27, Tryz.ntmps27
   go_wp2_with (first | (go_at_call 61; refine (checkStanding_some ao cap ls _ h0 hcap hl (HI.out.later HS0.out) HZ.out (HE.out.later HS0.out)).mono ?_; rintro e w1 ⟨v, rfl, hb1, hv⟩; obtain ⟨rfl, _⟩ := hv.resolve_right fun h => h.2 HST.out; have HB1 : Hid (Below (w.heap.size + 1) (w.alloc (.cells #[.int .i64 0, .int .i64 0] 43)) w1) := z_fd hb1; have HS1 : Hid (Below w.heap.size w w1) := HS0.out.trans (HB1.out.mono (Nat.le_succ _)); clear hb1) | (go_at_call 62; refine (z_hU ao cap ls l0 t HLS.out w1 hl hcap hw HA3.out HZ.out (HI.out.later HS1.out) (HE.out.later HS1.out)).mono ?_; rintro e w2 ⟨v, rfl, hb2, hv⟩; replace hv : ErrC v := (hv.resolve_left fun h => Bool.noConfusion (HC.out.symm.trans h.2)).1; have HV : Hid (ErrC v) := hv; obtain ⟨vt, vx, rfl⟩ := hv.form; have HB2 : Hid (Below (w.heap.size + 1) (w.alloc (.cells #[.int .i64 0, .int .i64 0] 43)) w2) := HB1.out.trans (hb2.mono (by have := HB1.out.size; simpa using this)); have HS2 : Hid (Below w.heap.size w w2) := HS0.out.trans (HB2.out.mono (Nat.le_succ _)); clear hb2) | (go_at_call 63; refine (z_jx _ w _ _ (by simp) HV.out HE.out HB2.out).mono ?_; rintro e w3 ⟨rfl, ln, c, hd⟩; have HD : Hid (AsD _ _ _ _ _) := hd; obtain ⟨_, c0, c1, r0, r1, f0, f1, _⟩ := hd))
   refine bodyPost_ret (v := .agg #[.int .i64 ln, .int .i64 c]) (by simp [results, Tryz.results27, go_sem, r0, r1]) rfl ?_
   exact ⟨_, _, rfl, (HD.out.below.setCell (Nat.le_refl _) _).setCell (Nat.le_refl _) _, .inr ⟨HD.out.nz, .inr (.inr ⟨l0, t, HLS.out, hw, HC.out⟩)⟩⟩
  | true =>
   have HC : Hid (z_bC l0 t = true) := hc
   clear hc
   go_enter Tryz.func27, Tryz.ntmps27
   go_wp2_with (first | (go_at_call 61; refine (checkStanding_some ao cap ls _ h0 hcap hl (HI.out.later HS0.out) HZ.out (HE.out.later HS0.out)).mono ?_; rintro e w1 ⟨v, rfl, hb1, hv⟩; obtain ⟨rfl, _⟩ := hv.resolve_right fun h => h.2 HST.out; have HB1 : Hid (Below (w.heap.size + 1) (w.alloc (.cells #[.int .i64 0, .int .i64 0] 43)) w1) := z_fd hb1; have HS1 : Hid (Below w.heap.size w w1) := HS0.out.trans (HB1.out.mono (Nat.le_succ _)); clear hb1) | (go_at_call 62; refine (z_hU ao cap ls l0 t HLS.out w1 hl hcap hw HA3.out HZ.out (HI.out.later HS1.out) (HE.out.later HS1.out)).mono ?_; rintro e w2 ⟨v, rfl, hb2, hv⟩; obtain ⟨rfl, _⟩ := hv.resolve_right fun h => Bool.noConfusion (HC.out.symm.trans h.2); have HB2 : Hid (Below (w.heap.size + 1) (w.alloc (.cells #[.int .i64 0, .int .i64 0] 43)) w2) := HB1.out.trans (hb2.mono (by have := HB1.out.size; simpa using this)); have HS2 : Hid (Below w.heap.size w w2) := HS0.out.trans (HB2.out.mono (Nat.le_succ _)); clear hb2) | (go_at_call 63; refine (z_n6 _ _).mono ?_; rintro e w3 ⟨rfl, rfl⟩; obtain ⟨r0, r1, f0, f1⟩ := z_nF HB2.out (.cells #[.int .i64 0, .int .i64 0] 96)))
   refine bodyPost_ret (v := .agg #[.int .i64 0, .int .i64 0]) (by simp [results, Tryz.results27, go_sem, r0, r1]) rfl ?_
   exact ⟨_, _, rfl, ((HS2.out.alloc HS2.out.size _).setCell (Nat.le_refl _) _).setCell (Nat.le_refl _) _, .inl ⟨rfl, HL.out, HST.out, l0, t, HLS.out, hw, HC.out⟩⟩
 ·have HN : Hid (¬ standB ls backL) := hst
  clear hst
  go_enter Tryz.func27, Tryz.ntmps27
  go_wp2_with (first | (go_at_call 61; refine (checkStanding_some ao cap ls _ h0 hcap hl (HI.out.later HS0.out) HZ.out (HE.out.later HS0.out)).mono ?_; rintro e w1 ⟨v, rfl, hb1, hv⟩; replace hv : z_eg v := (hv.resolve_left fun h => HN.out h.2).1; have HV : Hid (ErrC v) := .base v hv; obtain ⟨x, y, rfl, _⟩ := hv; have HB1 : Hid (Below (w.heap.size + 1) (w.alloc (.cells #[.int .i64 0, .int .i64 0] 43)) w1) := z_fd hb1; have HS1 : Hid (Below w.heap.size w w1) := HS0.out.trans (HB1.out.mono (Nat.le_succ _)); clear hb1) | (go_at_call 63; refine (z_jx _ w _ _ (by simp) HV.out HE.out HB1.out).mono ?_; rintro e w3 ⟨rfl, ln, c, hd⟩; have HD : Hid (AsD _ _ _ _ _) := hd; obtain ⟨_, c0, c1, r0, r1, f0, f1, _⟩ := hd))
  refine bodyPost_ret (v := .agg #[.int .i64 ln, .int .i64 c]) (by simp [results, Tryz.results27, go_sem, r0, r1]) rfl ?_
  exact ⟨_, _, rfl, (HD.out.below.setCell (Nat.le_refl _) _).setCell (Nat.le_refl _) _, .inr ⟨HD.out.nz, .inr (.inl HN.out)⟩⟩
theorem z_gC (ao : Option Addr) (cap : Nat) (ls : List Ln) (w : World) (hcap : ls.length ≤ cap) (hl : ls.length ≤ 1048576) (hi : LinesAt w.heap.size w ao ls) (hz : ∀ l ∈ ls, LnSz l) (he : Env w) :
  Calls Tryz.prog 27 #[.slice ao ls.length cap] w fun e w' => ∃ a b : Int, e = .returned (.agg #[.int .i64 a, .int .i64 b]) ∧ Below w.heap.size w w' ∧ z_bV b ls := by
 by_cases h : 60 < ls.length
 ·exact z_fI ao cap ls w hcap h hl
 ·by_cases h0 : 0 < ls.length
  ·exact z_fQ ao cap ls w h0 hcap (by omega) hi hz he
  ·have e0 : ls = [] := List.length_eq_zero_iff.1 (by omega)
   subst e0
   exact z_g9 ao cap w he
end
section
open Go.RowKit
theorem z_cR (ao bo : Option Addr) (ca cb : Nat) (xs ys : List ByteArray) (w : World) (hx : xs.length ≤ 9223372036854775807) (hy : ys.length ≤ 9223372036854775807) (ha : StrsAt 0 w.heap.size w ao xs) (hb : StrsAt 0 w.heap.size w bo ys) :
  Calls Tryz.prog 76 #[.slice ao xs.length ca, .slice bo ys.length cb] w fun e w' => e = .returned (.bool (decide (xs = ys))) ∧ Below w.heap.size w w' := by
 have HA : Hid (StrsAt 0 w.heap.size w ao xs) := ha
 have HB : Hid (StrsAt 0 w.heap.size w bo ys) := hb
 clear ha hb
 cases q5 : ((xs.length : Int) == (ys.length : Int)) with
 | false =>
  have b5 : ((xs.length : Int) != (ys.length : Int)) = true := by rw [bne, q5]; rfl
  have HQ : Hid (decide (xs = ys) = false) := by
   show _ = _
   rw [decide_eq_false_iff_not]
   intro e; rw [e] at q5; simp at q5
  go_enter Tryz.func76, Tryz.ntmps76
  go_wp2
  go_ret
  exact ⟨by rw [HQ.out] <;> rfl, Below.refl _ _⟩
 | true =>
  have hlen : xs.length = ys.length := by have := eq_of_beq q5; omega
  have b5 : ((xs.length : Int) != (ys.length : Int)) = false := by rw [bne, q5]; rfl
  have HLEN : Hid (xs.length = ys.length) := hlen
  clear hlen
  go_enter Tryz.func76, Tryz.ntmps76
  go_wp2
  go_loopw [5] (fun i wr => ∃ n : Nat, n ≤ xs.length ∧ i = .int .i64 n ∧ Hid (xs.take n = ys.take n) ∧ Hid (Below w.heap.size w wr)) (fun i _ => xs.length - (intOf i).toNat)
  case atStart => exact ⟨0, Nat.zero_le _, rfl, rfl, Below.refl _ _⟩
  case round =>
   obtain ⟨n, hn, rfl, HT, HBW⟩ := hrel
   by_cases hlt : n < xs.length
   ·have hlt2 : n < ys.length := by rw [← HLEN.out]; exact hlt
    obtain ⟨b, off, rfl, hB, hc0⟩ := HA.out.at n hlt
    obtain ⟨b2, off2, rfl, hB2, hc2⟩ := HB.out.at n hlt2
    have hc1 := (HBW.out.cell (p := ⟨b, off + n, none⟩) hB.2).trans hc0
    have hc3 := (HBW.out.cell (p := ⟨b2, off2 + n, none⟩) hB2.2).trans hc2
    clear hc0 hc2
    cases hq : (xs[n].toList == ys[n].toList) with
    | true =>
     have HN : Hid (xs.take (n + 1) = ys.take (n + 1)) := z_eh hlt hlt2 HT.out (by rw [z_aI] at hq; simpa using hq)
     go_wp2
     go_region
     go_wp2
     go_roundw
     case rel => exact ⟨n + 1, by omega, by go_num, HN, HBW.out.drew⟩
     case measure => simp [intOf]; omega
    | false =>
     have HQ : Hid (decide (xs = ys) = false) := by
      show _ = _
      rw [decide_eq_false_iff_not]
      intro e
      have : xs[n] = ys[n] := by simp only [e]
      rw [z_aI] at hq; simp [this] at hq
     go_wp2
     go_region
     go_wp2
     go_ret
     exact ⟨by rw [HQ.out] <;> rfl, HBW.out.drew⟩
   ·have HQ : Hid (decide (xs = ys) = true) := by
     show _ = _
     rw [decide_eq_true_iff]
     have h3 := HT.out
     rw [List.take_of_length_le (by omega), List.take_of_length_le (by rw [← HLEN.out]; omega)] at h3
     exact h3
    go_wp2
    go_ret
    exact ⟨by rw [HQ.out] <;> rfl, HBW.out⟩
def eqLn (l m : Ln) : Bool := (l.1 == m.1) && ((l.2.to.toList == m.2.to.toList) && ((l.2.name.toList == m.2.name.toList) && (decide (l.2.args = m.2.args) && (l.2.undo.toList == m.2.undo.toList))))
theorem z_jV (l m : Ln) : eqLn l m = true ↔ l = m := by
 obtain ⟨k, a, b, c, d⟩ := l
 obtain ⟨k', a', b', c', d'⟩ := m
 simp only [eqLn, z_aI, Bool.and_eq_true, beq_iff_eq, decide_eq_true_eq, Prod.mk.injEq, Bd.mk.injEq]
theorem z_do (l m : Ln) (ao bo : Option Addr) (ca cb : Nat) (w : World) (hx : l.2.args.length ≤ 9223372036854775807) (hy : m.2.args.length ≤ 9223372036854775807) (ha : StrsAt 0 w.heap.size w ao l.2.args) (hb : StrsAt 0 w.heap.size w bo m.2.args) :
  Calls Tryz.prog 36 #[.agg #[.int .i64 l.1, .string l.2.to, .string l.2.name, .slice ao l.2.args.length ca, .string l.2.undo], .agg #[.int .i64 m.1, .string m.2.to, .string m.2.name, .slice bo m.2.args.length cb, .string m.2.undo]] w fun e w' => e = .returned (.bool (eqLn l m)) ∧ Below w.heap.size w w' := by
 obtain ⟨k, d⟩ := l
 obtain ⟨k', d'⟩ := m
 simp only at ha hb hx hy ⊢
 have HA : Hid (StrsAt 0 w.heap.size w ao d.args) := ha
 have HB : Hid (StrsAt 0 w.heap.size w bo d'.args) := hb
 clear ha hb
 have HW : Hid (∀ L L' : Obj, Below w.heap.size w ((w.alloc L).alloc L')) := fun L L' => ((Below.refl _ _).alloc (Nat.le_refl _) _).alloc (by simp) _
 cases q1 : (k == k') with
 | false =>
  have b1 : (k != k') = true := by rw [bne, q1]; rfl
  go_enter Tryz.func36, Tryz.ntmps36
  go_wp2
  go_ret
  exact ⟨by simp only [eqLn, q1] <;> rfl, HW.out _ _⟩
 | true =>
  have b1 : (k != k') = false := by rw [bne, q1]; rfl
  cases q2 : (d.to.toList == d'.to.toList) with
  | false =>
   go_enter Tryz.func36, Tryz.ntmps36
   go_wp2
   go_ret
   exact ⟨by simp only [eqLn, q1, q2] <;> rfl, HW.out _ _⟩
  | true =>
   cases q3 : (d.name.toList == d'.name.toList) with
   | false =>
    go_enter Tryz.func36, Tryz.ntmps36
    go_wp2
    go_ret
    exact ⟨by simp only [eqLn, q1, q2, q3] <;> rfl, HW.out _ _⟩
   | true =>
    cases q4 : (decide (d.args = d'.args)) with
    | false =>
     go_enter Tryz.func36, Tryz.ntmps36
     go_wp2_with (go_at_call 76; refine (z_cR ao bo ca cb d.args d'.args _ hx hy (HA.out.later (HW.out _ _)) (HB.out.later (HW.out _ _))).mono ?_; rintro e w1 ⟨rfl, hb1⟩; rw [q4]; have HB1 : Hid (Below w.heap.size w w1) := (HW.out _ _).trans (hb1.mono (by simp; omega)); clear hb1)
     go_ret
     exact ⟨by simp only [eqLn, q1, q2, q3, q4] <;> rfl, HB1.out⟩
    | true =>
     cases q5 : (d.undo.toList == d'.undo.toList) with
     | false =>
      go_enter Tryz.func36, Tryz.ntmps36
      go_wp2_with fail
      refine (z_cR ao bo ca cb d.args d'.args _ hx hy (HA.out.later (HW.out _ _)) (HB.out.later (HW.out _ _))).mono ?_
      rintro e w1 ⟨rfl, hb1⟩
      rw [q4]
      have HB1 : Hid (Below w.heap.size w w1) := (HW.out _ _).trans (hb1.mono (by simp; omega))
      have r0 := (hb1.cell (p := ⟨w.heap.size, 4, none⟩) (by simp; omega)).trans (by simp : _ = some (Value.string d.undo))
      have r1 := (hb1.cell (p := ⟨w.heap.size + 1, 4, none⟩) (by simp)).trans (by simp : _ = some (Value.string d'.undo))
      clear hb1
      go_wp2
      go_ret
      exact ⟨by simp only [eqLn, q1, q2, q3, q4, q5] <;> rfl, HB1.out⟩
     | true =>
      go_enter Tryz.func36, Tryz.ntmps36
      go_wp2_with fail
      refine (z_cR ao bo ca cb d.args d'.args _ hx hy (HA.out.later (HW.out _ _)) (HB.out.later (HW.out _ _))).mono ?_
      rintro e w1 ⟨rfl, hb1⟩
      rw [q4]
      have HB1 : Hid (Below w.heap.size w w1) := (HW.out _ _).trans (hb1.mono (by simp; omega))
      have r0 := (hb1.cell (p := ⟨w.heap.size, 4, none⟩) (by simp; omega)).trans (by simp : _ = some (Value.string d.undo))
      have r1 := (hb1.cell (p := ⟨w.heap.size + 1, 4, none⟩) (by simp)).trans (by simp : _ = some (Value.string d'.undo))
      clear hb1
      go_wp2
      go_ret
      exact ⟨by simp only [eqLn, q1, q2, q3, q4, q5] <;> rfl, HB1.out⟩
theorem z_hn {xs ys : List Ln} {k : Nat} (hx : k < xs.length) (hy : k < ys.length) (h : xs.take k = ys.take k) (he : xs[k] = ys[k]) : xs.take (k + 1) = ys.take (k + 1) := by
 rw [List.take_succ_eq_append_getElem hx, List.take_succ_eq_append_getElem hy, h, he]
theorem z_eU (ao bo : Option Addr) (ca cb : Nat) (ls ms : List Ln) (w : World) (hx : ls.length ≤ 1048576) (hy : ms.length ≤ 1048576) (hzx : ∀ l ∈ ls, l.2.args.length ≤ 1048576) (hzy : ∀ l ∈ ms, l.2.args.length ≤ 1048576) (ha : LinesAt w.heap.size w ao ls) (hb : LinesAt w.heap.size w bo ms) :
  Calls Tryz.prog 14 #[.slice ao ls.length ca, .slice bo ms.length cb] w fun e w' => ∃ b : Bool, e = .returned (.bool b) ∧ (b = true ↔ ls = ms) ∧ Below w.heap.size w w' := by
 have HA : Hid (LinesAt w.heap.size w ao ls) := ha
 have HB : Hid (LinesAt w.heap.size w bo ms) := hb
 have HX : Hid (∀ l ∈ ls, l.2.args.length ≤ 1048576) := hzx
 have HY : Hid (∀ l ∈ ms, l.2.args.length ≤ 1048576) := hzy
 clear ha hb hzx hzy
 cases q5 : ((ls.length : Int) == (ms.length : Int)) with
 | false =>
  have b5 : ((ls.length : Int) != (ms.length : Int)) = true := by rw [bne, q5]; rfl
  have HQ : Hid (ls ≠ ms) := by intro e; rw [e] at q5; simp at q5
  go_enter Tryz.func14, Tryz.ntmps14
  go_wp2
  go_ret
  exact ⟨false, rfl, ⟨fun h => Bool.noConfusion h, fun h => absurd h HQ.out⟩, Below.refl _ _⟩
 | true =>
  have hlen : ls.length = ms.length := by have := eq_of_beq q5; omega
  have b5 : ((ls.length : Int) != (ms.length : Int)) = false := by rw [bne, q5]; rfl
  have HLEN : Hid (ls.length = ms.length) := hlen
  clear hlen
  go_enter Tryz.func14, Tryz.ntmps14
  go_wp2
  go_loopw [5] (fun i wr => ∃ n : Nat, n ≤ ls.length ∧ i = .int .i64 n ∧ Hid (ls.take n = ms.take n) ∧ Hid (Below w.heap.size w wr)) (fun i _ => ls.length - (intOf i).toNat)
  case atStart => exact ⟨0, Nat.zero_le _, rfl, rfl, Below.refl _ _⟩
  case round =>
   obtain ⟨n, hn, rfl, HT, HBW⟩ := hrel
   by_cases hlt : n < ls.length
   ·have hlt2 : n < ms.length := by rw [← HLEN.out]; exact hlt
    obtain ⟨b, off, rfl, hB, aoA, capA, hcA, q0, q1, q2, q3, q4, hA⟩ := HA.out n hlt
    obtain ⟨b2, off2, rfl, hB2, aoB, capB, hcB, p0, p1, p2, p3, p4, hBs⟩ := HB.out n hlt2
    have c0 := (HBW.out.cell (p := ⟨b, off + n * 5, none⟩) hB).trans q0
    have c1 := (HBW.out.cell (p := ⟨b, off + n * 5 + 1, none⟩) hB).trans q1
    have c2 := (HBW.out.cell (p := ⟨b, off + n * 5 + 2, none⟩) hB).trans q2
    have c3 := (HBW.out.cell (p := ⟨b, off + n * 5 + 3, none⟩) hB).trans q3
    have c4 := (HBW.out.cell (p := ⟨b, off + n * 5 + 4, none⟩) hB).trans q4
    have d0 := (HBW.out.cell (p := ⟨b2, off2 + n * 5, none⟩) hB2).trans p0
    have d1 := (HBW.out.cell (p := ⟨b2, off2 + n * 5 + 1, none⟩) hB2).trans p1
    have d2 := (HBW.out.cell (p := ⟨b2, off2 + n * 5 + 2, none⟩) hB2).trans p2
    have d3 := (HBW.out.cell (p := ⟨b2, off2 + n * 5 + 3, none⟩) hB2).trans p3
    have d4 := (HBW.out.cell (p := ⟨b2, off2 + n * 5 + 4, none⟩) hB2).trans p4
    have HS1 : Hid (StrsAt 0 w.heap.size w aoA ls[n].2.args) := hA
    have HS2 : Hid (StrsAt 0 w.heap.size w aoB ms[n].2.args) := hBs
    have z1 := HX.out _ (List.getElem_mem hlt)
    have z2 := HY.out _ (List.getElem_mem hlt2)
    have hws := HBW.out.size
    clear q0 q1 q2 q3 q4 p0 p1 p2 p3 p4 hA hBs
    cases hq : eqLn ls[n] ms[n] with
    | true =>
     have HN : Hid (ls.take (n + 1) = ms.take (n + 1)) := z_hn hlt hlt2 HT.out ((z_jV _ _).1 hq)
     go_wp2_with fail
     go_region_with (go_at_call 36; refine (z_do ls[n] ms[n] aoA aoB capA capB _ (by omega) (by omega) (HS1.out.later HBW.out.drew) (HS2.out.later HBW.out.drew)).mono ?_; rintro e w1 ⟨rfl, hb1⟩; rw [hq]; have HB1 : Hid (Below w.heap.size w w1) := HBW.out.drew.trans (hb1.mono hws); clear hb1)
     all_goals
      go_wp2
      go_roundw
      case rel => exact ⟨n + 1, by omega, by go_num, HN, HB1.out⟩
      case measure => simp [intOf]; omega
    | false =>
     have HQ : Hid (ls ≠ ms) := by
      intro e
      have : ls[n] = ms[n] := by simp only [e]
      rw [this, (z_jV _ _).2 rfl] at hq
      exact Bool.noConfusion hq
     go_wp2_with fail
     go_region_with (go_at_call 36; refine (z_do ls[n] ms[n] aoA aoB capA capB _ (by omega) (by omega) (HS1.out.later HBW.out.drew) (HS2.out.later HBW.out.drew)).mono ?_; rintro e w1 ⟨rfl, hb1⟩; rw [hq]; have HB1 : Hid (Below w.heap.size w w1) := HBW.out.drew.trans (hb1.mono hws); clear hb1)
     all_goals
      go_wp2
      go_ret
      exact ⟨false, rfl, ⟨fun h => Bool.noConfusion h, fun h => absurd h HQ.out⟩, HB1.out⟩
   ·have HQ : Hid (ls = ms) := by
     have h3 := HT.out
     rw [List.take_of_length_le (by omega), List.take_of_length_le (by rw [← HLEN.out]; omega)] at h3
     exact h3
    go_wp2
    go_ret
    exact ⟨true, rfl, ⟨fun _ => HQ.out, fun _ => rfl⟩, HBW.out⟩
end
section
open Go.RowKit
def stC (s : Stp) (u : Value) : List Value := [.int .i64 s.code, .string s.to, .string s.name, u, .string s.undo, .int .i64 s.a, .int .i64 s.b]
def stA (s : Stp) : List ByteArray := s.args
abbrev z_dm := OwnSt 52 7 stC stA
def StepAt (B : Nat) (w : World) (b o : Nat) (s : Stp) : Prop :=
 ∃ ao cap, s.args.length ≤ cap ∧ w.cell? ⟨b, o, none⟩ = some (.int .i64 s.code) ∧ w.cell? ⟨b, o + 1, none⟩ = some (.string s.to) ∧ w.cell? ⟨b, o + 2, none⟩ = some (.string s.name) ∧ w.cell? ⟨b, o + 3, none⟩ = some (.slice ao s.args.length cap) ∧ w.cell? ⟨b, o + 4, none⟩ = some (.string s.undo) ∧ w.cell? ⟨b, o + 5, none⟩ = some (.int .i64 s.a) ∧ w.cell? ⟨b, o + 6, none⟩ = some (.int .i64 s.b) ∧ StrsAt 0 B w ao s.args
def StepsAt (B : Nat) (w : World) (ao : Option Addr) (ss : List Stp) : Prop :=
 ∀ k (h : k < ss.length), ∃ b off, ao = some ⟨b, off, none⟩ ∧ b < B ∧ StepAt B w b (off + k * 7) ss[k]
section
variable {B B' : Nat} {w w' : World} {b o : Nat} {s : Stp} {ao : Option Addr} {ss : List Stp}
theorem StepAt.below (h : StepAt B w b o s) (hb : Below B w w') (hB : b < B) : StepAt B w' b o s := by
 obtain ⟨ao, cap, h0, h1, h2, h3, h4, h5, h6, h7, h8⟩ := h
 have hc := fun j => hb.cell (p := ⟨b, j, none⟩) hB
 exact ⟨ao, cap, h0, (hc _).trans h1, (hc _).trans h2, (hc _).trans h3, (hc _).trans h4, (hc _).trans h5, (hc _).trans h6, (hc _).trans h7, h8.below hb⟩
theorem StepAt.mono (h : StepAt B w b o s) (hB : B ≤ B') : StepAt B' w b o s := by
 obtain ⟨ao, cap, h0, h1, h2, h3, h4, h5, h6, h7, h8⟩ := h
 exact ⟨ao, cap, h0, h1, h2, h3, h4, h5, h6, h7, h8.mono (Nat.le_refl _) hB⟩
theorem StepsAt.below (h : StepsAt B w ao ss) (hb : Below B w w') : StepsAt B w' ao ss := by
 intro k hk
 obtain ⟨b, off, e, hB, hl⟩ := h k hk
 exact ⟨b, off, e, hB, hl.below hb hB⟩
theorem StepsAt.mono (h : StepsAt B w ao ss) (hB : B ≤ B') : StepsAt B' w ao ss := by
 intro k hk
 obtain ⟨b, off, e, hb, hl⟩ := h k hk
 exact ⟨b, off, e, Nat.lt_of_lt_of_le hb hB, hl.mono hB⟩
theorem StepsAt.later (h : StepsAt w.heap.size w ao ss) (hb : Below w.heap.size w w') : StepsAt w'.heap.size w' ao ss := (h.below hb).mono hb.size
theorem OwnSt.steps {base : Nat} {v : Value} {ps : List (Stp × Value)} (h : z_dm base w v ps) : ∃ ao cap, v = .slice ao ps.length cap ∧ ps.length ≤ cap ∧ StepsAt w.heap.size w ao (ps.map (·.1)) := by
 obtain ⟨ao, cap, rfl, hc⟩ := z_aq h.row
 refine ⟨ao, cap, rfl, hc, fun k hk => ?_⟩
 have hk' : k < ps.length := by simpa using hk
 rcases h.row.2 with ⟨_, h0⟩ | ⟨g, cap', cur, e, hb, hg, _⟩
 ·omega
 ·simp only [Value.slice.injEq] at e
  obtain ⟨rfl, _, rfl⟩ := e
  have hargs := h.args _ (List.getElem_mem hk')
  obtain ⟨bo, bc, e2, hbc, hs⟩ := StrsAt.of_owns hargs
  have hcell := fun j hj u hu => h.cell (fun _ _ => rfl) rfl k j hk' hj u hu
  refine ⟨g, 0, rfl, (h.row.lt g rfl).2, bo, bc, ?_, ?_, ?_, ?_, ?_, ?_, ?_, ?_, ?_⟩
  ·simpa [stA] using hbc
  ·rw [Nat.zero_add]; simpa using hcell 0 (by decide) _ rfl
  ·rw [Nat.zero_add]; simpa using hcell 1 (by decide) _ rfl
  ·rw [Nat.zero_add]; simpa using hcell 2 (by decide) _ rfl
  ·rw [Nat.zero_add]; have := hcell 3 (by decide) _ rfl; rw [this]; simp only [List.getElem_map]; exact congrArg some e2
  ·rw [Nat.zero_add]; simpa using hcell 4 (by decide) _ rfl
  ·rw [Nat.zero_add]; simpa using hcell 5 (by decide) _ rfl
  ·rw [Nat.zero_add]; simpa using hcell 6 (by decide) _ rfl
  ·rw [List.getElem_map]; exact hs.mono (Nat.zero_le _) (Nat.le_refl _)
end
end
section
open Go.RowKit
set_option linter.unusedVariables false
end
section
open Go.RowKit
set_option linter.unusedVariables false
end
section
open Go.RowKit
section
variable {α : Type} (mk : Nat → α → α) (cnt : α → Nat)
end
end
end Go.Proofs.YtlbjjbolbopfmaaGreatDoor
