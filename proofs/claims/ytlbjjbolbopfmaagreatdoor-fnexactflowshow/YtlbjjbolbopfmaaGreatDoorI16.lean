import Derived.Test.YtlbjjbolbopfmaaGreatDoorI15
import Derived.Test.YtlbjjbolbopfmaaGreatDoorI11
import Derived.Deep.LoopGhost
import Derived.ChangeBears2
import Derived.Test.YtlbjjbolbopfmaaGreatDoorI10
import Derived.Test.YtlbjjbolbopfmaaGreatDoorI09
import Derived.Test.YtlbjjbolbopfmaaGreatDoorI01
import Derived.Test.YtlbjjbolbopfmaaGreatDoorI06
import Derived.Test.YtlbjjbolbopfmaaGreatDoorI07
import Derived.Maps.AppendAt
namespace Go.Proofs.YtlbjjbolbopfmaaGreatDoor
set_option maxHeartbeats 4000000
set_option maxRecDepth 1000000
set_option linter.unusedVariables false
section
open Go.RowKit Go.Extern.Stop Go.Stop Go.Extern
theorem z_gK {w : World} {a : Addr} {v : Value} (h : w.cell? a = some v) : a.block < w.heap.size := by
 unfold World.cell? at h
 split at h
 ·rename_i hb; exact (Array.getElem?_eq_some_iff.1 hb).1
 ·simp at h
theorem z_kW (a b c : Value) (w : World) : Calls Tryz.prog 260 #[.agg #[a, b, c]] w fun e w' => e = .returned c ∧ Below w.heap.size w w' := by
 go_enter Tryz.func260, Tryz.ntmps260
 go_wp2
 go_ret
 exact ⟨rfl, (Below.refl _ _).alloc (Nat.le_refl _) _⟩
theorem z_lv (p : ByteArray) (n : Int) (v : Value) : SizeOf.sizeOf v < SizeOf.sizeOf (Value.iface 231 (.agg #[.string p, .int .i64 n, v])) := by
 have h : SizeOf.sizeOf v < SizeOf.sizeOf #[Value.string p, .int .i64 n, v] := Array.sizeOf_lt_of_mem (by simp)
 have h2 : SizeOf.sizeOf (Value.iface 231 (.agg #[.string p, .int .i64 n, v])) = 1 + SizeOf.sizeOf (231 : TypeId) + (1 + SizeOf.sizeOf #[Value.string p, .int .i64 n, v]) := rfl
 omega
theorem z_nS (er : Value) (t vb : Nat) (w : World) (he : ErrC er) (hv : w.cell? ⟨vb, 0, none⟩ = some (.pointer (some ⟨t, 0, none⟩))) (ht0 : w.cell? ⟨t, 0, none⟩ = some (.int .i64 0)) (ht1 : w.cell? ⟨t, 1, none⟩ = some (.int .i64 0)) (hf0 : w.frozen? ⟨t, 0, none⟩ = false) (hf1 : w.frozen? ⟨t, 1, none⟩ = false) (HTL : t < w.heap.size) (HVL : vb < w.heap.size) :
  Calls Tryz.prog 99 #[er, .iface 98 (.pointer (some ⟨t, 0, none⟩)), .agg #[.pointer (some ⟨7, 98, none⟩), .pointer (some ⟨vb, 0, none⟩), .int .u64 150], .iface 185 (.agg #[.pointer (some ⟨7, 96, none⟩)])] w fun e w' => e = .returned (.bool true) ∧ (∃ (ln c : Int), c ≠ 0 ∧ w'.cell? ⟨t, 0, none⟩ = some (.int .i64 ln) ∧ w'.cell? ⟨t, 1, none⟩ = some (.int .i64 c)) ∧ w.grownBy w' (some t) := by
 have h78 := @run_callFunc_extern Tryz.prog 96 _ (fun args => ReflectliteValue.unpack (args.getD 0 (.tuple #[]))) Tryz.func96 (by kernel_rfl) (by kernel_rfl) (by kernel_rfl) (by kernel_rfl)
 have h113 := @run_callFunc_extern Tryz.prog 132 _ ReflectliteType.typeOf Tryz.func132 (by kernel_rfl) (by kernel_rfl) (by kernel_rfl) (by kernel_rfl)
 have h114 := @run_callFunc_extern Tryz.prog 133 _ (ReflectliteValue.method (ReflectliteValue.valueError "reflectlite.Value.Elem" 0) ReflectliteValue.elem) Tryz.func133 (by kernel_rfl) (by kernel_rfl) (by kernel_rfl) (by kernel_rfl)
 have h115 := @run_callFunc_extern Tryz.prog 134 _ ReflectliteValue.set Tryz.func134 (by kernel_rfl) (by kernel_rfl) (by kernel_rfl) (by kernel_rfl)
 have h232 := @run_callFunc_extern Tryz.prog 249 _ (ReflectliteType.relation "AssignableTo" ReflectliteType.assignableTo) Tryz.func249 (by kernel_rfl) (by kernel_rfl) (by kernel_rfl) (by kernel_rfl)
 have tL := X.typeOfL
 have tW := X.typeOfW
 have aL := X.assignL
 have aW := X.assignW
 have mA := X.mAssignableTo
 have mU := X.mUnwrap
 have vL := X.valueOfL
 have tA := X.tAs
 have tU := X.tUnwrap
 go_enter Tryz.func99, Tryz.ntmps99
 go_wp2
 go_loopw [0] (fun e wr => Hid (ErrC e) ∧ Hid (Below w.heap.size w wr) ∧ wr.cell? ⟨w.heap.size, 0, none⟩ = some (.pointer (some ⟨7, 98, none⟩)) ∧ wr.cell? ⟨w.heap.size, 1, none⟩ = some (.pointer (some ⟨vb, 0, none⟩)) ∧ wr.cell? ⟨w.heap.size, 2, none⟩ = some (.int .u64 150)) (fun e _ => SizeOf.sizeOf e)
 case atStart => exact ⟨he, (Below.refl _ _).alloc (Nat.le_refl _) _, by simp, by simp, by simp⟩
 case round =>
  obtain ⟨HE, HB, b0, b1, b2⟩ := hrel
  have HB := HB.out
  have hvw := (HB.cell (p := ⟨vb, 0, none⟩) HVL).trans hv
  have hs := z_gK b0
  cases HE.out with
  | base _ hl =>
   obtain ⟨ln, c, rfl, hc0⟩ := hl
   have hE := X.elemVP ⟨vb, 0, none⟩ ⟨t, 0, none⟩ wr hvw
   have hb2 : Below w.heap.size w (wr.alloc (.cells #[.int .i64 ln, .int .i64 c] 96)) := HB.alloc HB.size _
   have hS := X.setL t wr.heap.size ln c (.int .i64 0) (.int .i64 0) (wr.alloc (.cells #[.int .i64 ln, .int .i64 c] 96)) (by simp) (by simp) ((hb2.cell (p := ⟨t, 0, none⟩) HTL).trans ht0) ((hb2.cell (p := ⟨t, 1, none⟩) HTL).trans ht1) ((hb2.frozen (p := ⟨t, 0, none⟩) HTL).trans hf0) ((hb2.frozen (p := ⟨t, 1, none⟩) HTL).trans hf1)
   have c0 := (hb2.cell (p := ⟨t, 0, none⟩) HTL).trans ht0
   have c1 := (hb2.cell (p := ⟨t, 1, none⟩) HTL).trans ht1
   go_wp2
   go_ret
   refine ⟨rfl, ⟨ln, c, hc0, ?_, ?_⟩, ?_⟩
   ·exact (World.cell?_setCell_other _ ⟨t, 1, none⟩ ⟨t, 0, none⟩ _ (by simp)).trans (World.cell?_setCell_same _ _ _ c0)
   ·exact World.cell?_setCell_same _ _ _ ((World.cell?_setCell_other _ ⟨t, 0, none⟩ ⟨t, 1, none⟩ _ (by simp)).trans c1)
   ·exact z_ah (z_ah (z_bx hb2) (z_aj t 0 _) (.inl rfl)) (z_aj t 1 _) (.inl rfl)
  | within p n v hv =>
   have HV : Hid (ErrC v) := hv
   obtain ⟨vt, vx, rfl⟩ := hv.form
   go_wp2_with (go_at_call 260; refine (z_kW _ _ _ _).mono ?_; rintro e w1 ⟨rfl, hb1⟩; have HB1 : Hid (Below w.heap.size w w1) := HB.trans (hb1.mono HB.size); have hc0 := (hb1.cell (p := ⟨w.heap.size, 0, none⟩) hs).trans b0; have hc1 := (hb1.cell (p := ⟨w.heap.size, 1, none⟩) hs).trans b1; have hc2 := (hb1.cell (p := ⟨w.heap.size, 2, none⟩) hs).trans b2; clear hb1)
   go_roundw
   case rel => exact ⟨HV, HB1, hc0, hc1, hc2⟩
   case measure => exact z_lv p n _
end
section
open Go.RowKit Go.Extern.Stop Go.Stop Go.Extern
theorem z_iN (er : Value) (t : Nat) (w : World) (he : ErrC er) (hv : Env w) (ht0 : w.cell? ⟨t, 0, none⟩ = some (.int .i64 0)) (ht1 : w.cell? ⟨t, 1, none⟩ = some (.int .i64 0)) (hf0 : w.frozen? ⟨t, 0, none⟩ = false) (hf1 : w.frozen? ⟨t, 1, none⟩ = false) :
  Calls Tryz.prog 63 #[er, .iface 98 (.pointer (some ⟨t, 0, none⟩))] w fun e w' => e = .returned (.bool true) ∧ (∃ (ln c : Int), c ≠ 0 ∧ w'.cell? ⟨t, 0, none⟩ = some (.int .i64 ln) ∧ w'.cell? ⟨t, 1, none⟩ = some (.int .i64 c)) ∧ w.grownBy w' (some t) := by
 have h2003 := @run_callFunc_extern Tryz.prog 96 _ (fun args => ReflectliteValue.unpack (args.getD 0 (.tuple #[]))) Tryz.func96 (by kernel_rfl) (by kernel_rfl) (by kernel_rfl) (by kernel_rfl)
 have h5718 := @run_callFunc_extern Tryz.prog 97 _ (ReflectliteValue.methodAny (ReflectliteValue.valueError "reflectlite.Value.Type" 0) (fun t _ _ _ => ReflectliteType.toType t)) Tryz.func97 (by kernel_rfl) (by kernel_rfl) (by kernel_rfl) (by kernel_rfl)
 have h2828 := @run_callFunc_extern Tryz.prog 98 _ (ReflectliteValue.method (ReflectliteValue.valueError "reflectlite.Value.IsNil" 0) ReflectliteValue.isNil) Tryz.func98 (by kernel_rfl) (by kernel_rfl) (by kernel_rfl) (by kernel_rfl)
 have h4149 := @run_callFunc_extern Tryz.prog 237 _ (ReflectliteType.abiMethod fun t => do pure (.int .u8 (← Rtype.kind t))) Tryz.func237 (by kernel_rfl) (by kernel_rfl) (by kernel_rfl) (by kernel_rfl)
 have h6179 := @run_callFunc_extern Tryz.prog 251 _ (ReflectliteType.method ReflectliteType.elem) Tryz.func251 (by kernel_rfl) (by kernel_rfl) (by kernel_rfl) (by kernel_rfl)
 have h3160 := @run_callFunc_extern Tryz.prog 252 _ (ReflectliteType.relation "Implements" ReflectliteType.implements_) Tryz.func252 (by kernel_rfl) (by kernel_rfl) (by kernel_rfl) (by kernel_rfl)
 have f6 := X.valueOfP
 have f7 := X.typeP
 have mK := X.mKind
 have mE := X.mElem
 have mI := X.mImplements
 have k27 := X.kindP
 have k25 := X.kindL
 have e27 := X.elemP
 have i25 := X.implementsL
 have hg : w.cell? ⟨0, 0, none⟩ = some (.iface 185 (.agg #[.pointer (some ⟨7, 76, none⟩)])) := (var?_cell (P := Tryz.prog) (n := "errors.errorType") (by kernel_rfl) (hv.err "errors.errorType" (by kernel_rfl)) 0).trans rfl
 have hlt := z_gK hg
 have htl := z_gK ht0
 obtain ⟨W0, HW0⟩ : ∃ W, W = ((w.alloc (.cells #[.pointer (some ⟨t, 0, none⟩)] 98)).alloc (.cells #[.pointer (some ⟨7, 98, none⟩), .pointer (some ⟨w.heap.size, 0, none⟩), .int .u64 150] 144)) := ⟨_, rfl⟩
 have HB0 : Below w.heap.size w W0 := by rw [HW0]; exact ((Below.refl _ _).alloc (Nat.le_refl _) _).alloc (by simp) _
 have hs0 : W0.heap.size = w.heap.size + 2 := by rw [HW0]; simp
 have n8 := X.isNilP ⟨w.heap.size, 0, none⟩ ⟨t, 0, none⟩ W0 (by rw [HW0]; simp)
 have hg2 := (HB0.cell (p := ⟨0, 0, none⟩) hlt).trans hg
 have HF : Hid (W0.cell? ⟨w.heap.size, 0, none⟩ = some (.pointer (some ⟨t, 0, none⟩)) ∧ W0.cell? ⟨t, 0, none⟩ = some (.int .i64 0) ∧ W0.cell? ⟨t, 1, none⟩ = some (.int .i64 0) ∧ W0.frozen? ⟨t, 0, none⟩ = false ∧ W0.frozen? ⟨t, 1, none⟩ = false ∧ t < W0.heap.size ∧ w.heap.size < W0.heap.size) :=
  ⟨by rw [HW0]; simp, (HB0.cell (p := ⟨t, 0, none⟩) htl).trans ht0, (HB0.cell (p := ⟨t, 1, none⟩) htl).trans ht1, (HB0.frozen (p := ⟨t, 0, none⟩) htl).trans hf0, (HB0.frozen (p := ⟨t, 1, none⟩) htl).trans hf1, by simp at htl; omega, by omega⟩
 have HE : Hid (ErrC er) := he
 have HB0 : Hid (Below w.heap.size w W0) := HB0
 subst HW0
 obtain ⟨vt, vx, rfl⟩ := he.form
 go_enter Tryz.func63, Tryz.ntmps63
 go_wp2_with (go_at_call 99; refine (z_nS _ t w.heap.size _ HE.out HF.out.1 HF.out.2.1 HF.out.2.2.1 HF.out.2.2.2.1 HF.out.2.2.2.2.1 HF.out.2.2.2.2.2.1 HF.out.2.2.2.2.2.2).mono ?_; rintro e w1 ⟨rfl, hcs, hgr⟩)
 go_ret
 exact ⟨rfl, hcs, z_ah (z_bx HB0.out) hgr (.inl rfl)⟩
end
section
open Go.RowKit
def z_bV (b : Int) (ls : List Ln) : Prop :=
 (b = 0 ∧ ls.length ≤ 60 ∧ standB ls backL ∧ ∃ l0 t, ls = l0 :: t.flat ∧ t.wf ∧ z_bC l0 t = true)
 ∨ (b ≠ 0 ∧ (60 < ls.length ∨ ¬ standB ls backL ∨ ∃ l0 t, ls = l0 :: t.flat ∧ t.wf ∧ z_bC l0 t = false))
theorem z_fP (ao : Option Addr) (cap : Nat) (ls : List Ln) (w : World) (hcap : ls.length ≤ cap) (hl : 60 < ls.length) (hl2 : ls.length ≤ 1048576) :
  Calls Tryz.prog 27 #[.slice ao ls.length cap] w fun e w' => ∃ a b : Int, e = .returned (.agg #[.int .i64 a, .int .i64 b]) ∧ Below w.heap.size w w' ∧ z_bV b ls := by
 have HL : Hid (60 < ls.length) := hl
 go_enter Tryz.func27, Tryz.ntmps27
 go_wp2
 refine bodyPost_ret (v := .agg #[.int .i64 0, .int .i64 8]) (by simp [results, Tryz.results27, go_sem]) rfl ?_
 exact ⟨_, _, rfl, (Below.refl _ _).alloc (Nat.le_refl _) _, .inr ⟨by decide, .inl HL.out⟩⟩
theorem z_e1 {w w1 : World} {o : Obj} (h : Below (w.alloc o).heap.size (w.alloc o) w1) : Below (w.heap.size + 1) (w.alloc o) w1 := by simpa using h
theorem z_m9 {w w1 : World} (h : Below (w.heap.size + 1) (w.alloc (.cells #[.int .i64 0, .int .i64 0] 43)) w1) (o : Obj) :
  (w1.alloc o).cell? ⟨w.heap.size, 0, none⟩ = some (.int .i64 0) ∧ (w1.alloc o).cell? ⟨w.heap.size, 1, none⟩ = some (.int .i64 0) ∧ (w1.alloc o).frozen? ⟨w.heap.size, 0, none⟩ = false ∧ (w1.alloc o).frozen? ⟨w.heap.size, 1, none⟩ = false := by
 have h2 := h.alloc (by have := h.size; simpa using this) o
 exact ⟨(h2.cell (p := ⟨w.heap.size, 0, none⟩) (Nat.lt_succ_self _)).trans (by simp), (h2.cell (p := ⟨w.heap.size, 1, none⟩) (Nat.lt_succ_self _)).trans (by simp), (h2.frozen (p := ⟨w.heap.size, 0, none⟩) (Nat.lt_succ_self _)).trans (by simp), (h2.frozen (p := ⟨w.heap.size, 1, none⟩) (Nat.lt_succ_self _)).trans (by simp)⟩
structure AsD (w : World) (n : Nat) (w3 : World) (ln c : Int) : Prop where
 nz : c ≠ 0
 c0 : w3.cell? ⟨n, 0, none⟩ = some (.int .i64 ln)
 c1 : w3.cell? ⟨n, 1, none⟩ = some (.int .i64 c)
 r0 : w3.cell? ⟨w.heap.size, 0, none⟩ = some (.int .i64 0)
 r1 : w3.cell? ⟨w.heap.size, 1, none⟩ = some (.int .i64 0)
 f0 : w3.frozen? ⟨w.heap.size, 0, none⟩ = false
 f1 : w3.frozen? ⟨w.heap.size, 1, none⟩ = false
 below : Below w.heap.size w w3
theorem z_jr (er : Value) (w W : World) (n : Nat) (hn : n = W.heap.size) (he : ErrC er) (hv : Env w) (hb : Below (w.heap.size + 1) (w.alloc (.cells #[.int .i64 0, .int .i64 0] 43)) W) :
  Calls Tryz.prog 63 #[er, .iface 98 (.pointer (some ⟨n, 0, none⟩))] (W.alloc (.cells #[.int .i64 0, .int .i64 0] 96)) fun e w3 => e = .returned (.bool true) ∧ ∃ ln c, AsD w n w3 ln c := by
 subst hn
 have hs : w.heap.size + 1 ≤ W.heap.size := by have := hb.size; simpa using this
 have hbw : Below w.heap.size w W := ((Below.refl _ _).alloc (Nat.le_refl _) _).trans (hb.mono (Nat.le_succ _))
 have hw1 : Below w.heap.size w (W.alloc (.cells #[.int .i64 0, .int .i64 0] 96)) := hbw.alloc hbw.size _
 refine (z_iN er W.heap.size _ he (hv.later hw1) (by simp) (by simp) (by simp [go_sem]) (by simp [go_sem])).mono ?_
 rintro e w3 ⟨rfl, ⟨ln, c, hc, k0, k1⟩, hg⟩
 have hr : w3.heap[w.heap.size]? = (w.alloc (.cells #[.int .i64 0, .int .i64 0] 43)).heap[w.heap.size]? := by
  rw [hg.block w.heap.size (by simp; omega) (by simp; omega), Below.heap_alloc _ _ _ (by omega), hb.block w.heap.size (by omega)]
 refine ⟨rfl, ln, c, hc, k0, k1, (World.cell?_of_block hr).trans (by simp), (World.cell?_of_block hr).trans (by simp), (World.frozen?_of_block hr).trans (by simp [go_sem]), (World.frozen?_of_block hr).trans (by simp [go_sem]), ?_⟩
 exact hw1.grown hg hw1.size (fun k hk => by cases hk; exact hbw.size)
theorem z_h (ao : Option Addr) (cap : Nat) (w : World) (he : Env w) :
  Calls Tryz.prog 27 #[.slice ao 0 cap] w fun e w' => ∃ a b : Int, e = .returned (.agg #[.int .i64 a, .int .i64 b]) ∧ Below w.heap.size w w' ∧ z_bV b [] := by
 have HE : Hid (Env w) := he
 clear he
 go_enter Tryz.func27, Tryz.ntmps27
 go_wp2_with (first | (go_at_call 61; refine (z_d6 ao cap _).mono ?_; rintro e w1 ⟨v, rfl, hv, rfl⟩; have HV : Hid (ErrC v) := .base v hv; obtain ⟨x, y, rfl, _⟩ := hv) | (go_at_call 63; refine (z_jr _ w _ _ (by simp) HV.out HE.out (Below.refl _ _)).mono ?_; rintro e w3 ⟨rfl, ln, c, hd⟩; have HD : Hid (AsD _ _ _ _ _) := hd; obtain ⟨_, c0, c1, r0, r1, f0, f1, _⟩ := hd))
 refine bodyPost_ret (v := .agg #[.int .i64 ln, .int .i64 c]) (by simp [results, Tryz.results27, go_sem, r0, r1]) rfl ?_
 exact ⟨_, _, rfl, (HD.out.below.setCell (Nat.le_refl _) _).setCell (Nat.le_refl _) _, .inr ⟨HD.out.nz, .inr (.inl fun h => h.1 rfl)⟩⟩
theorem z_ll {k : Int} {d : Bd} (h : z_br k d = true) : d.args.length ≤ 3 := by
 unfold z_br at h
 rw [Bool.and_eq_true] at h
 obtain ⟨_, h⟩ := h
 split at h
 ·cases h
 ·split at h
  ·cases h
  ·rename_i d' hr
   have hg := z_lO hr
   have := hg.args3
   simp [z_aZ] at h
   rw [h.2]; exact this
theorem z_iE (ao : Option Addr) (cap : Nat) (ls : List Ln) (l0 : Ln) (t : Bl) (hls : ls = l0 :: t.flat) (w : World) (hl : ls.length ≤ 60) (hcap : ls.length ≤ cap) (hw : t.wf) (h0 : l0.2.args.length ≤ 100) (hz : ∀ l ∈ ls, LnSz l) (hi : LinesAt w.heap.size w ao ls) (he : Env w) :
  Calls Tryz.prog 62 #[.slice ao ls.length cap] w fun e w' => ∃ v, e = .returned v ∧ Below w.heap.size w w' ∧ ((v = .nilIface ∧ z_bC l0 t = true) ∨ (ErrC v ∧ z_bC l0 t = false)) := by
 subst hls
 exact z_fA ao cap l0 t w hl hcap hw h0 hz hi he
theorem z_fY (ao : Option Addr) (cap : Nat) (ls : List Ln) (w : World) (h0 : 0 < ls.length) (hcap : ls.length ≤ cap) (hl : ls.length ≤ 60) (hi : LinesAt w.heap.size w ao ls) (hz : ∀ l ∈ ls, LnSz l) (he : Env w) :
  Calls Tryz.prog 27 #[.slice ao ls.length cap] w fun e w' => ∃ a b : Int, e = .returned (.agg #[.int .i64 a, .int .i64 b]) ∧ Below w.heap.size w w' ∧ z_bV b ls := by
 have HE : Hid (Env w) := he
 have HI : Hid (LinesAt w.heap.size w ao ls) := hi
 have HZ : Hid (∀ l ∈ ls, LnSz l) := hz
 have HA : Hid (Below (w.heap.size + 1) (w.alloc (.cells #[.int .i64 0, .int .i64 0] 43)) (w.alloc (.cells #[.int .i64 0, .int .i64 0] 43))) := Below.refl _ _
 have HS0 : Hid (Below w.heap.size w (w.alloc (.cells #[.int .i64 0, .int .i64 0] 43))) := (Below.refl _ _).alloc (Nat.le_refl _) _
 clear he hi hz
 have hgt : (ls.length : Int) ≤ 60 := by omega
 by_cases hst : standB ls backL
 ·obtain ⟨l0, t, hls, hk, hw⟩ := z_j5 ls hst.1 hst.2.2
  have HLS : Hid (ls = l0 :: t.flat) := hls
  have HST : Hid (standB ls backL) := hst
  have HA3 : Hid (l0.2.args.length ≤ 100) := by have := z_ll (hst.2.1 l0 (by simp [hls])); show _ ≤ _; omega
  have HL : Hid (ls.length ≤ 60) := hl
  clear hst hk hls
  cases hc : z_bC l0 t with
  | false =>
   have HC : Hid (z_bC l0 t = false) := hc
   clear hc
   go_enter Tryz.func27, Tryz.ntmps27
   go_wp2_with (first | (go_at_call 61; refine (checkStanding_some ao cap ls _ h0 hcap hl (HI.out.later HS0.out) HZ.out (HE.out.later HS0.out)).mono ?_; rintro e w1 ⟨v, rfl, hb1, hv⟩; obtain ⟨rfl, _⟩ := hv.resolve_right fun h => h.2 HST.out; have HB1 : Hid (Below (w.heap.size + 1) (w.alloc (.cells #[.int .i64 0, .int .i64 0] 43)) w1) := z_e1 hb1; have HS1 : Hid (Below w.heap.size w w1) := HS0.out.trans (HB1.out.mono (Nat.le_succ _)); clear hb1) | (go_at_call 62; refine (z_iE ao cap ls l0 t HLS.out w1 hl hcap hw HA3.out HZ.out (HI.out.later HS1.out) (HE.out.later HS1.out)).mono ?_; rintro e w2 ⟨v, rfl, hb2, hv⟩; replace hv : ErrC v := (hv.resolve_left fun h => Bool.noConfusion (HC.out.symm.trans h.2)).1; have HV : Hid (ErrC v) := hv; obtain ⟨vt, vx, rfl⟩ := hv.form; have HB2 : Hid (Below (w.heap.size + 1) (w.alloc (.cells #[.int .i64 0, .int .i64 0] 43)) w2) := HB1.out.trans (hb2.mono (by have := HB1.out.size; simpa using this)); have HS2 : Hid (Below w.heap.size w w2) := HS0.out.trans (HB2.out.mono (Nat.le_succ _)); clear hb2) | (go_at_call 63; refine (z_jr _ w _ _ (by simp) HV.out HE.out HB2.out).mono ?_; rintro e w3 ⟨rfl, ln, c, hd⟩; have HD : Hid (AsD _ _ _ _ _) := hd; obtain ⟨_, c0, c1, r0, r1, f0, f1, _⟩ := hd))
   refine bodyPost_ret (v := .agg #[.int .i64 ln, .int .i64 c]) (by simp [results, Tryz.results27, go_sem, r0, r1]) rfl ?_
   exact ⟨_, _, rfl, (HD.out.below.setCell (Nat.le_refl _) _).setCell (Nat.le_refl _) _, .inr ⟨HD.out.nz, .inr (.inr ⟨l0, t, HLS.out, hw, HC.out⟩)⟩⟩
  | true =>
   have HC : Hid (z_bC l0 t = true) := hc
   clear hc
   go_enter Tryz.func27, Tryz.ntmps27
   go_wp2_with (first | (go_at_call 61; refine (checkStanding_some ao cap ls _ h0 hcap hl (HI.out.later HS0.out) HZ.out (HE.out.later HS0.out)).mono ?_; rintro e w1 ⟨v, rfl, hb1, hv⟩; obtain ⟨rfl, _⟩ := hv.resolve_right fun h => h.2 HST.out; have HB1 : Hid (Below (w.heap.size + 1) (w.alloc (.cells #[.int .i64 0, .int .i64 0] 43)) w1) := z_e1 hb1; have HS1 : Hid (Below w.heap.size w w1) := HS0.out.trans (HB1.out.mono (Nat.le_succ _)); clear hb1) | (go_at_call 62; refine (z_iE ao cap ls l0 t HLS.out w1 hl hcap hw HA3.out HZ.out (HI.out.later HS1.out) (HE.out.later HS1.out)).mono ?_; rintro e w2 ⟨v, rfl, hb2, hv⟩; obtain ⟨rfl, _⟩ := hv.resolve_right fun h => Bool.noConfusion (HC.out.symm.trans h.2); have HB2 : Hid (Below (w.heap.size + 1) (w.alloc (.cells #[.int .i64 0, .int .i64 0] 43)) w2) := HB1.out.trans (hb2.mono (by have := HB1.out.size; simpa using this)); have HS2 : Hid (Below w.heap.size w w2) := HS0.out.trans (HB2.out.mono (Nat.le_succ _)); clear hb2) | (go_at_call 63; refine (z_n3 _ _).mono ?_; rintro e w3 ⟨rfl, rfl⟩; obtain ⟨r0, r1, f0, f1⟩ := z_m9 HB2.out (.cells #[.int .i64 0, .int .i64 0] 96)))
   refine bodyPost_ret (v := .agg #[.int .i64 0, .int .i64 0]) (by simp [results, Tryz.results27, go_sem, r0, r1]) rfl ?_
   exact ⟨_, _, rfl, ((HS2.out.alloc HS2.out.size _).setCell (Nat.le_refl _) _).setCell (Nat.le_refl _) _, .inl ⟨rfl, HL.out, HST.out, l0, t, HLS.out, hw, HC.out⟩⟩
 ·have HN : Hid (¬ standB ls backL) := hst
  clear hst
  go_enter Tryz.func27, Tryz.ntmps27
  go_wp2_with (first | (go_at_call 61; refine (checkStanding_some ao cap ls _ h0 hcap hl (HI.out.later HS0.out) HZ.out (HE.out.later HS0.out)).mono ?_; rintro e w1 ⟨v, rfl, hb1, hv⟩; replace hv : z_d8 v := (hv.resolve_left fun h => HN.out h.2).1; have HV : Hid (ErrC v) := .base v hv; obtain ⟨x, y, rfl, _⟩ := hv; have HB1 : Hid (Below (w.heap.size + 1) (w.alloc (.cells #[.int .i64 0, .int .i64 0] 43)) w1) := z_e1 hb1; have HS1 : Hid (Below w.heap.size w w1) := HS0.out.trans (HB1.out.mono (Nat.le_succ _)); clear hb1) | (go_at_call 63; refine (z_jr _ w _ _ (by simp) HV.out HE.out HB1.out).mono ?_; rintro e w3 ⟨rfl, ln, c, hd⟩; have HD : Hid (AsD _ _ _ _ _) := hd; obtain ⟨_, c0, c1, r0, r1, f0, f1, _⟩ := hd))
  refine bodyPost_ret (v := .agg #[.int .i64 ln, .int .i64 c]) (by simp [results, Tryz.results27, go_sem, r0, r1]) rfl ?_
  exact ⟨_, _, rfl, (HD.out.below.setCell (Nat.le_refl _) _).setCell (Nat.le_refl _) _, .inr ⟨HD.out.nz, .inr (.inl HN.out)⟩⟩
theorem z_hq (ao : Option Addr) (cap : Nat) (ls : List Ln) (w : World) (hcap : ls.length ≤ cap) (hl : ls.length ≤ 1048576) (hi : LinesAt w.heap.size w ao ls) (hz : ∀ l ∈ ls, LnSz l) (he : Env w) :
  Calls Tryz.prog 27 #[.slice ao ls.length cap] w fun e w' => ∃ a b : Int, e = .returned (.agg #[.int .i64 a, .int .i64 b]) ∧ Below w.heap.size w w' ∧ z_bV b ls := by
 by_cases h : 60 < ls.length
 ·exact z_fP ao cap ls w hcap h hl
 ·by_cases h0 : 0 < ls.length
  ·exact z_fY ao cap ls w h0 hcap (by omega) hi hz he
  ·have e0 : ls = [] := List.length_eq_zero_iff.1 (by omega)
   subst e0
   exact z_h ao cap w he
end
section
open Go.RowKit
theorem z_aK (s : ByteArray) (w : World) (hs : s.size ≤ 9223372036854775807) :
  Calls Tryz.prog 199 #[.string s] w fun e w' => e = .returned (.bool (z_an s)) ∧ w' = w := by
 cases hn : numB s with
 | true =>
  have HN : Hid (z_an s = true) := by show _ = _; rw [z_an, hn]; simp
  go_enter Tryz.func199, Tryz.ntmps199
  go_wp2_with (go_at_call 210; refine (z_if s w hs).mono ?_; rintro e w ⟨⟨n, rfl, _⟩, rfl⟩; rw [hn])
  go_ret
  exact ⟨by rw [HN.out]; rfl, rfl⟩
 | false =>
  have HN : Hid (z_an s = z_ac s) := by show _ = _; rw [z_an, hn]; simp
  go_enter Tryz.func199, Tryz.ntmps199
  go_wp2_with (first | (go_at_call 210; refine (z_if s w hs).mono ?_; rintro e w ⟨⟨n, rfl, _⟩, rfl⟩; rw [hn]) | (go_at_call 140; refine (z_a s w hs).mono ?_; rintro e w ⟨rfl, rfl⟩))
  go_ret
  exact ⟨by rw [HN.out]; rfl, rfl⟩
theorem z_aU (ao : Option Addr) (cap : Nat) (ss : List ByteArray) (B : Nat) (w : World) (hl : ss.length ≤ 9223372036854775807) (hs : ∀ s ∈ ss, s.size ≤ 9223372036854775807) (hi : StrsAt 0 B w ao ss) :
  Calls Tryz.prog 197 #[.slice ao ss.length cap] w fun e w' => e = .returned (.bool (allB z_an ss)) ∧ w' = w := by
 have HI : Hid (StrsAt 0 B w ao ss) := hi
 have HSz : Hid (∀ s ∈ ss, s.size ≤ 9223372036854775807) := hs
 clear hi hs
 go_enter Tryz.func197, Tryz.ntmps197
 go_wp2
 go_loop [3] (fun i => ∃ k : Nat, k ≤ ss.length ∧ i = .int .i64 k ∧ Hid (allB z_an (ss.take k) = true)) (fun i => ss.length - (intOf i).toNat)
 case atStart => exact ⟨0, Nat.zero_le _, rfl, by simp [allB, Hid]⟩
 case round =>
  obtain ⟨k, hk, rfl, HH⟩ := hrel
  by_cases hlt : k < ss.length
  ·obtain ⟨b, off, rfl, hB, hc⟩ := HI.out.at k hlt
   cases hn : z_an ss[k] with
   | true =>
    have HN : Hid (allB z_an (ss.take (k + 1)) = true) := by show _ = _; rw [z_c1 _ _ _ hlt, HH.out, hn]; rfl
    go_wp2_with (go_at_call 199; refine (z_aK _ _ (HSz.out _ (List.getElem_mem hlt))).mono ?_; rintro e w1 ⟨rfl, rfl⟩; rw [hn])
    go_round
    case rel => exact ⟨k + 1, by omega, by go_num, HN⟩
    case measure => simp [intOf]; omega
   | false =>
    have HN : Hid (allB z_an ss = false) := z_fG _ _ _ hlt hn
    go_wp2_with (go_at_call 199; refine (z_aK _ _ (HSz.out _ (List.getElem_mem hlt))).mono ?_; rintro e w1 ⟨rfl, rfl⟩; rw [hn])
    go_ret
    exact ⟨by rw [HN.out]; rfl, rfl⟩
  ·have HN : Hid (allB z_an ss = true) := by
    have e0 : ss.take k = ss := List.take_of_length_le (by omega)
    rw [← e0]; exact HH.out
   go_wp2
   go_ret
   exact ⟨by rw [HN.out]; rfl, rfl⟩
end
section
open Go.RowKit
def cutAt (s : ByteArray) (a : Nat) : Nat → Nat → Nat → List ByteArray
 | 0, _, fr => [s.extract fr s.size]
 | n + 1, pos, fr => if (s.get! pos).toNat = a then s.extract fr pos :: cutAt s a n (pos + 1) (pos + 1) else cutAt s a n (pos + 1) fr
def cutS (s : ByteArray) (a : Nat) : List ByteArray := cutAt s a s.size 0 0
def z_g6 (ss : List ByteArray) : List ByteArray := ss.filter (fun x => decide (x.size ≠ 0))
theorem z_er (s : ByteArray) (p : Nat) : (s.extract p p).size = 0 := by rw [ByteArray.size_extract]; omega
theorem z_cV {x : ByteArray} {r : List ByteArray} (h : x.size = 0) : z_g6 (x :: r) = z_g6 r := by rw [z_g6, List.filter_cons_of_neg (by simp only [decide_eq_true_eq]; omega)]; rfl
theorem z_c5 {x : ByteArray} {r : List ByteArray} (h : x.size ≠ 0) : z_g6 (x :: r) = x :: z_g6 r := by rw [z_g6, List.filter_cons_of_pos (by simp only [decide_eq_true_eq]; omega)]; rfl
theorem z_ff (s : ByteArray) : ∀ (n pos : Nat), pos + n = s.size →
  z_g6 (cutAt s 32 n pos pos) = cutSp s n pos (-1) ∧ ∀ fr, fr < pos → z_g6 (cutAt s 32 n pos fr) = cutSp s n pos fr
 | 0, pos, h => by
  have hp : pos = s.size := by omega
  subst hp
  refine ⟨?_, fun fr hf => ?_⟩
  ·rw [cutAt, cutSp, if_neg (by omega), z_cV (z_er _ _)]; rfl
  ·rw [cutAt, cutSp, if_pos (by omega), z_c5 (by rw [ByteArray.size_extract]; omega)]; rfl
 | n + 1, pos, h => by
  obtain ⟨h1, h2⟩ := z_ff s n (pos + 1) (by omega)
  by_cases hb : s.get! pos = 32
  ·have hb' : (s.get! pos).toNat = 32 := by rw [hb]; rfl
   refine ⟨?_, fun fr hf => ?_⟩
   ·rw [cutAt, if_pos hb', cutSp, if_pos hb, if_neg (by omega), z_cV (z_er _ _), h1]
   ·rw [cutAt, if_pos hb', cutSp, if_pos hb, if_pos (by omega), z_c5 (by rw [ByteArray.size_extract]; omega), h1]; rfl
  ·have hb' : ¬ (s.get! pos).toNat = 32 := fun e => hb (UInt8.toNat.inj e)
   refine ⟨?_, fun fr hf => ?_⟩
   ·rw [cutAt, if_neg hb', cutSp, if_neg hb, if_pos (by omega), h2 pos (by omega)]
   ·rw [cutAt, if_neg hb', cutSp, if_neg hb, if_neg (by omega), h2 fr (by omega)]
theorem z_k6 (s : ByteArray) : z_g6 (cutS s 32) = wordsW s := (z_ff s s.size 0 (by omega)).1
theorem z_fC (s : ByteArray) (a : Nat) : ∀ (n pos fr : Nat), (cutAt s a n pos fr).length ≤ n + 1
 | 0, _, _ => by simp [cutAt]
 | n + 1, pos, fr => by
  rw [cutAt]
  split
  ·have := z_fC s a n (pos + 1) (pos + 1); simp; omega
  ·have := z_fC s a n (pos + 1) fr; omega
end
section
open Go.RowKit
theorem l1Cut_any (s : ByteArray) (a : Nat) (w : World) (hs : s.size ≤ 4398046511000) :
    Calls Tryz.prog 154 #[.string s, .int .u8 a] w fun e w' => ∃ v, e = .returned v ∧ Below w.heap.size w w' ∧ z_be w.heap.size w'.heap.size w' v (cutS s a) := by
  obtain ⟨i0, hi0, hz0, hz1, hz2⟩ := info_parts Tryz.infoStr
  go_enter Tryz.func154, Tryz.ntmps154
  go_wp2
  go_loopw [5, 6, 7] (fun v st ix wr => ∃ (pos fuel fr : Nat) (acc : List ByteArray), wr.ownsRow w.heap.size 9 1 v acc.length (strCells acc) ∧ Hid (Below w.heap.size w wr) ∧ st = .int .i64 fr ∧ ix = .int .i64 pos ∧ Hid (acc ++ cutAt s a fuel pos fr = cutS s a) ∧ pos + fuel = s.size ∧ acc.length ≤ pos ∧ fr ≤ pos) (fun _ _ ix _ => s.size - (intOf ix).toNat)
  case atStart => exact ⟨0, s.size, 0, [], World.ownsRow_made w #[] 0 (Nat.le_refl _) (by decide) rfl, (Below.refl _ _).alloc (Nat.le_refl _) _, rfl, rfl, rfl, by omega, by simp, by omega⟩
  case round =>
    obtain ⟨pos, fuel, fr, acc, hown, HB, rfl, rfl, HS, hb, hlen, hfr⟩ := hrel
    have hwsz := HB.out.size
    by_cases hp : pos < s.size
    · obtain ⟨f, rfl⟩ : ∃ f, fuel = f + 1 := ⟨fuel - 1, by omega⟩
      have hbk : (s[pos]'hp).toNat < 256 := (s[pos]'hp).toNat_lt
      have hg : s.get! pos = s[pos]'hp := get_at s pos hp
      by_cases hq : (s[pos]'hp).toNat = a
      · have HN : Hid ((acc ++ [s.extract fr pos]) ++ cutAt s a f (pos + 1) (pos + 1) = cutS s a) := by
          show _ = _
          rw [← HS.out, cutAt, if_pos (by rw [hg]; exact hq), List.append_assoc]; rfl
        have hq2 : (((s[pos]'hp).toNat : Int) == (a : Int)) = true := by simp [hq]
        clear hg hq
        go_wp2_with (first
            | (at_builtin; refine wpList_append_own _ rfl _ _ 45 rfl w.heap.size 9 i0 (.string ByteArray.empty) 1 16 Tryz.underlying45 hi0 hz0 hz1 hz2 rfl (by decide) _ _ _ rfl (hown.alloc _) ⟨wr.heap.size, 0, none⟩ 1 1 [.string (s.extract fr pos)] rfl rfl (cell_one_new _ _ _) (fun u hu => by simp at hu; subst hu; rfl) (by unfold maxLen; omega) (by omega) (by simp; omega) ?_; intro v' w3 hown' hgrow3 hnil3
               have hbw3 : Below w.heap.size w w3 := Below.grown (HB.out.alloc HB.out.size _) hgrow3 (by have := HB.out.size; simp; omega) (fun j hj => (hown.lt _ hj).1)
               have X : Aside (w3.ownsRow w.heap.size 9 1 v' (acc ++ [s.extract fr pos]).length (strCells (acc ++ [s.extract fr pos])) ∧ Below w.heap.size w w3) := ⟨by simpa [strCells] using hown', hbw3⟩
               clear hown' hgrow3 hnil3 hbw3))
        go_roundw
        case rel => exact ⟨pos + 1, f, pos + 1, _, X.out.1, X.out.2, by go_num, by go_num, HN, by omega, by simp; omega, by omega⟩
        case measure => simp [intOf]; omega
      · have HN : Hid (acc ++ cutAt s a f (pos + 1) fr = cutS s a) := by
          show _ = _
          rw [← HS.out, cutAt, if_neg (by rw [hg]; exact hq)]
        have hq2 : (((s[pos]'hp).toNat : Int) == (a : Int)) = false := by simp; omega
        clear hg hq
        go_wp2
        go_roundw
        case rel => exact ⟨pos + 1, f, fr, acc, hown, HB, rfl, by go_num, HN, by omega, by omega, by omega⟩
        case measure => simp [intOf]; omega
    · obtain rfl : fuel = 0 := by omega
      have HN : Hid (acc ++ [s.extract fr s.size] = cutS s a) := by
        show _ = _
        rw [← HS.out, cutAt]
      have hfs : fr ≤ s.size := by omega
      go_wp2_with (first
            | (at_builtin; refine wpList_append_own _ rfl _ _ 45 rfl w.heap.size 9 i0 (.string ByteArray.empty) 1 16 Tryz.underlying45 hi0 hz0 hz1 hz2 rfl (by decide) _ _ _ rfl (hown.alloc _) ⟨wr.heap.size, 0, none⟩ 1 1 [.string (s.extract fr s.size)] rfl rfl (cell_one_new _ _ _) (fun u hu => by simp at hu; subst hu; rfl) (by unfold maxLen; omega) (by omega) (by simp; omega) ?_; intro v' w3 hown' hgrow3 hnil3
               have hbw3 : Below w.heap.size w w3 := Below.grown (HB.out.alloc HB.out.size _) hgrow3 (by have := HB.out.size; simp; omega) (fun j hj => (hown.lt _ hj).1)
               have X : Aside (w3.ownsRow w.heap.size 9 1 v' (acc ++ [s.extract fr s.size]).length (strCells (acc ++ [s.extract fr s.size])) ∧ Below w.heap.size w w3) := ⟨by simpa [strCells] using hown', hbw3⟩
               clear hown' hgrow3 hnil3 hbw3))
      go_ret
      obtain ⟨ao, cap, e1, e2, e3⟩ := StrsAt.of_owns X.out.1
      rw [← HN.out]
      exact ⟨v', rfl, X.out.2, ao, cap, e1, e2, e3.mono (by omega) (Nat.le_refl _)⟩
end
section
open Go.RowKit
theorem StrsAt.grown {A B : Nat} {w w' : World} {ao : Option Addr} {ss : List ByteArray} {row : Option Nat} (h : StrsAt A B w ao ss) (hg : w.grownBy w' row) (hB : B ≤ w.heap.size) (hr : ∀ j, row = some j → j < A ∨ B ≤ j) : StrsAt A B w' ao ss := by
 intro k hk
 obtain ⟨b, off, e, hb, hc⟩ := h k hk
 refine ⟨b, off, e, hb, ?_⟩
 exact (World.cell?_of_block (hg.block b (by omega) (fun e => by have := hr b e.symm; omega))).trans hc
theorem S_of {base n1 B : Nat} {v v' : Value} {A : List ByteArray} {x : ByteArray} {ao : Option Addr} {ss : List ByteArray} {w wr w3 : World} {t : TypeId} (hb : Below base w wr) (hbs : base ≤ wr.heap.size) (ho : wr.ownsRow base 9 1 v A.length (strCells A))
  (hi : StrsAt B n1 wr ao ss) (hn1 : n1 ≤ wr.heap.size) (hv : ∀ j, v.ownBlock = some j → j < B ∨ n1 ≤ j)
  (hown : w3.ownsRow base 9 1 v' (A.length + 1) (strCells A ++ [.string x])) (hg : (wr.alloc (.cells #[.string x] t)).grownBy w3 v.ownBlock) (hat : v'.ownBlock = v.ownBlock ∨ v'.ownBlock = some (wr.alloc (.cells #[.string x] t)).heap.size) :
  Aside (w3.ownsRow base 9 1 v' (A ++ [x]).length (strCells (A ++ [x])) ∧ Below base w w3 ∧ StrsAt B n1 w3 ao ss ∧ n1 ≤ w3.heap.size ∧ ∀ j, v'.ownBlock = some j → j < B ∨ n1 ≤ j) := by
 have hsz := hg.size
 simp at hsz
 refine ⟨by simpa [strCells] using hown, (hb.alloc hbs _).grown hg (by simp; omega) (fun j hj => (ho.lt _ hj).1), ?_, by omega, ?_⟩
 ·exact (hi.below (((Below.refl _ _).alloc hn1 _))).grown hg (by simp; omega) hv
 ·intro j hj
  rcases hat with h | h
  ·exact hv j (h ▸ hj)
  ·rw [h] at hj; simp at hj; omega
theorem z_jF (s : ByteArray) (w : World) (hs : s.size ≤ 4398046510000) :
  Calls Tryz.prog 135 #[.string s] w fun e w' => ∃ v, e = .returned v ∧ Below w.heap.size w w' ∧ z_be w.heap.size w'.heap.size w' v (wordsW s) := by
 obtain ⟨i0, hi0, hz0, hz1, hz2⟩ := info_parts Tryz.infoStr
 obtain ⟨ss, hss⟩ : ∃ ss, ss = cutS s 32 := ⟨_, rfl⟩
 have hlen : ss.length ≤ s.size + 1 := by rw [hss]; exact z_fC _ _ _ _ _
 have HW : Hid (z_ax ss = wordsW s) := by show _ = _; rw [hss]; exact z_k6 s
 have HSS : Hid (ss = cutS s 32) := hss
 clear hss
 have HO0 : Hid ((w.alloc (.cells #[] 9)).ownsRow w.heap.size 9 1 (.slice (some ⟨w.heap.size, 0, none⟩) 0 0) 0 (strCells [])) := World.ownsRow_made w #[] 0 (Nat.le_refl _) (by decide) rfl
 have HB0 : Hid (Below w.heap.size w (w.alloc (.cells #[] 9))) := (Below.refl _ _).alloc (Nat.le_refl _) _
 go_enter Tryz.func135, Tryz.ntmps135
 go_wp2_with (go_at_call 154; refine (l1Cut_any s 32 _ (by omega)).mono ?_; rintro e w1 ⟨v, rfl, hb1, ao, cap, rfl, hcp, hv⟩; rw [← HSS.out] at hcp hv ⊢; have hw1 : w.heap.size + 1 ≤ w1.heap.size := (by have := hb1.size; simpa using this); have HV : Hid (StrsAt (w.heap.size + 1) w1.heap.size w1 ao ss) := (by simpa [Hid] using hv); have HO1 : Hid (w1.ownsRow w.heap.size 9 1 (.slice (some ⟨w.heap.size, 0, none⟩) 0 0) 0 (strCells [])) := z_ay HO0.out hb1; have HB1 : Hid (Below w.heap.size w w1) := HB0.out.trans (hb1.mono (by simp)); clear hb1 hv)
 clear HO0 HB0
 obtain ⟨n1, hn1⟩ : ∃ n1, n1 = w1.heap.size := ⟨_, rfl⟩
 rw [← hn1] at hw1 HV
 have hn2 : n1 ≤ w1.heap.size := by omega
 clear hn1
 go_loopw [3, 5] (fun v ix wr => ∃ k : Nat, k ≤ ss.length ∧ ix = .int .i64 k ∧ Hid (wr.ownsRow w.heap.size 9 1 v (z_ax (ss.take k)).length (strCells (z_ax (ss.take k)))) ∧ Hid (Below w.heap.size w wr) ∧ Hid (StrsAt (w.heap.size + 1) n1 wr ao ss) ∧ n1 ≤ wr.heap.size ∧ Hid (∀ j, v.ownBlock = some j → j < w.heap.size + 1 ∨ n1 ≤ j)) (fun _ ix _ => ss.length - (intOf ix).toNat)
 case atStart => exact ⟨0, Nat.zero_le _, rfl, HO1, HB1, HV, hn2, fun j hj => by simp [Value.ownBlock] at hj; omega⟩
 case round =>
  obtain ⟨k, hk, rfl, HO, HB, HI, hnr, HT⟩ := hrel
  have hwsz := HB.out.size
  clear HO1 HB1 HV
  by_cases hlt : k < ss.length
  ·obtain ⟨b, off, rfl, hB, hc1⟩ := HI.out.at k hlt
   have hfl : (z_ax (ss.take k)).length ≤ k := Nat.le_trans (List.length_filter_le _ _) (by simp; omega)
   by_cases he : ss[k].size = 0
   ·have hq : ss[k] = ByteArray.empty := z_bF he
    have HF : Hid (z_ax (ss.take (k + 1)) = z_ax (ss.take k)) := by
     show _ = _; rw [z_dh _ _ hlt]; simp [z_ax, hq]
    rw [hq] at hc1
    clear he hq
    go_wp2
    go_roundw
    case rel => exact ⟨k + 1, by omega, by go_num, (show Hid _ by rw [HF.out]; exact HO), HB, HI, hnr, HT⟩
    case measure => simp [intOf]; omega
   ·obtain ⟨x, hx⟩ : ∃ x, x = ss[k] := ⟨_, rfl⟩
    have HF : Hid (z_ax (ss.take (k + 1)) = z_ax (ss.take k) ++ [x]) := by
     show _ = _; have he2 : ¬ ss[k] = ByteArray.empty := fun e => he (by rw [e]; rfl)
     rw [z_dh _ _ hlt, hx]; simp [z_ax, he2]
    have hq : x.toList.isEmpty = false := by rw [z_av, hx]; simpa using he
    have hq2 : (x.toList == []) = false := by rw [← hq]; cases x.toList <;> rfl
    rw [← hx] at hc1
    clear he hx
    obtain ⟨A, hA⟩ : ∃ A, A = z_ax (ss.take k) := ⟨_, rfl⟩
    rw [← hA] at HO HF hfl
    clear hA
    go_wp2_with (at_builtin; refine wpList_append_own_at _ rfl _ _ 45 rfl w.heap.size 9 i0 (.string ByteArray.empty) 1 16 Tryz.underlying45 hi0 hz0 hz1 hz2 rfl (by decide) _ _ _ rfl (HO.out.alloc _) ⟨wr.heap.size, 0, none⟩ 1 1 [.string x] rfl rfl (cell_one_new _ _ _) (fun u hu => by simp at hu; subst hu; rfl) (by unfold maxLen; omega) (by omega) (by simp; omega) ?_; intro v' w3 hown' hgrow3 hnil3 hat3; have X := S_of HB.out hwsz HO.out HI.out hnr HT.out hown' hgrow3 hat3; clear hown' hgrow3 hat3 hnil3)
    go_roundw
    case rel => exact ⟨k + 1, by omega, by go_num, (show Hid _ by rw [HF.out]; exact X.out.1), X.out.2.1, X.out.2.2.1, X.out.2.2.2.1, X.out.2.2.2.2⟩
    case measure => simp [intOf]; omega
  ·have e0 : ss.take k = ss := List.take_of_length_le (by omega)
   rw [e0, HW.out] at HO
   go_wp2
   go_ret
   obtain ⟨ao', cap', e1, e2, e3⟩ := StrsAt.of_owns HO.out
   exact ⟨_, rfl, HB.out, ao', cap', e1, e2, e3⟩
end
end Go.Proofs.YtlbjjbolbopfmaaGreatDoor
