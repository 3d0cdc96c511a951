import Derived.Test.YtlbjjbolbopfmaaGreatDoorI40
import Derived.Test.YtlbjjbolbopfmaaGreatDoorI41
import Derived.Test.YtlbjjbolbopfmaaGreatDoorI39
import Derived.Test.YtlbjjbolbopfmaaGreatDoorI19
import Derived.Test.YtlbjjbolbopfmaaGreatDoorI20
import Derived.Deep.Slices
import Derived.Deep.Strs
import Derived.ProofKit
import Derived.Test.YtlbjjbolbopfmaaGreatDoorRows
import Derived.Test.YtlbjjbolbopfmaaGreatDoorI01
import Derived.Lib.LaidTab
import Derived.Stop.LaidErr
import Derived.LaidLaws
import Derived.LaidHandle
namespace Go.Proofs.YtlbjjbolbopfmaaGreatDoor
set_option maxHeartbeats 4000000
set_option maxRecDepth 1000000
set_option linter.unusedVariables false
section
open Go.RowKit
theorem z_fE {w w' : World} {T e : TypeId} {B b : Nat} {bs : List Value} (h : Lib.IsBuilder T e B b bs w) (hb : Below w.heap.size w w') : Lib.IsBuilder T e B b bs w' := by
 rcases h with ⟨h1, v, h2, h3, h4⟩ | ⟨h1, v, h2, h3, h4⟩
 ·exact .inl ⟨h1, v, (hb.block _ (b_lt h2)).trans h2, z_ay h3 hb, h4⟩
 ·exact .inr ⟨h1, v, (hb.block _ (b_lt h2)).trans h2, z_ay h3 hb, h4⟩
theorem z_nP {w : World} {T e : TypeId} {B b : Nat} {bs : List Value} (h : Lib.IsBuilder T e B b bs w) : b < w.heap.size := by
 rcases h with ⟨_, v, h2, _⟩ | ⟨_, v, h2, _⟩ <;> exact b_lt h2
theorem z_cy (a b : ByteArray) : Lib.strCells (a ++ b) = Lib.strCells a ++ Lib.strCells b := by
 rw [Lib.strCells_eq, Lib.strCells_eq, Lib.strCells_eq, ← Lib.byteCells_append]
 congr 1
theorem z_jf (HShow : Hid (∀ (c a b : Nat) (tt nm undo : ByteArray) (args : List ByteArray) (ao : Option Addr) (cap : Nat) (w : World) (hc0 : 1 ≤ c) (hc : c ≤ 12) (ha : a ≤ 1000000000) (hb : b ≤ 1000000000) (h1 : tt.size ≤ 1048576) (h2 : nm.size ≤ 1048576) (h3 : undo.size ≤ 1048576) (h4 : ∀ s ∈ args, s.size ≤ 1048576) (hl : args.length ≤ 1048576) (hcap : args.length ≤ cap) (hi : StrsAt 0 w.heap.size w ao args) (he : Env w), Calls Tryz.prog 45 #[.agg #[.int .i64 c, .string tt, .string nm, .slice ao args.length cap, .string undo, .int .i64 a, .int .i64 b]] w fun e w' => e = .returned (.string (z_cF c tt nm args undo a b)) ∧ Below w.heap.size w w')) (ao : Option Addr) (cap : Nat) (ls : List Ln) (w : World) (hcap : ls.length ≤ cap) (hl : ls.length ≤ 1048576) (hi : LinesAt w.heap.size w ao ls) (hz : ∀ l ∈ ls, LnSz l) (he : Env w) :
  Calls Tryz.prog 19 #[.slice ao ls.length cap] w fun e w' => ∃ (ok : Bool) (ss : List Stp), e = .returned (.string (z_bM ss ss.length)) ∧ Below w.heap.size w w' ∧ MkL ls ok ss := by
 have HI : Hid (LinesAt w.heap.size w ao ls) := hi
 have HZ : Hid (∀ l ∈ ls, LnSz l) := hz
 have HE : Hid (Env w) := he
 clear hi hz he
 go_enter Tryz.func19, Tryz.ntmps19
 go_wp2_with fail
 refine (z_im ao cap ls w hcap hl HI.out HZ.out HE.out).mono ?_
 rintro e w1 hmk
 obtain ⟨v1, ok1, ps, base, rfl, hb1, hmk1, hbs1, ho1⟩ := z_h3 hmk
 obtain ⟨so, sc, rfl, hsc, hst⟩ := OwnSt.steps ho1
 have hlen := z_lg hmk1
 rw [List.length_map] at hlen
 have HOK : Hid (∀ s ∈ ps.map (·.1), z_hc s) := z_m0 hmk1 HZ.out
 have HMk : Hid (MkL ls ok1 (ps.map (·.1))) := hmk1
 have HB1 : Hid (Below w.heap.size w w1) := hb1
 obtain ⟨ss, hss⟩ : ∃ ss, ss = ps.map (·.1) := ⟨_, rfl⟩
 have hsl : ps.length = ss.length := by rw [hss, List.length_map]
 rw [← hss] at HOK HMk hst
 have HS : Hid (StepsAt w1.heap.size w1 so ss) := hst
 clear hmk hb1 hmk1 hbs1 ho1 hst hss
 obtain ⟨n, hn⟩ : ∃ n, n = ps.length := ⟨_, rfl⟩
 rw [← hn] at hsc hlen hsl ⊢
 have HSL : Hid (n = ss.length) := hsl
 clear hn hsl
 go_wp2_with fail
 go_loopw [15] (fun iv wr => ∃ (j : Nat), j ≤ n ∧ iv = .int .i64 j ∧ Hid (Lib.IsBuilder 74 5 w1.heap.size w1.heap.size (Lib.strCells (z_bM ss j)) wr) ∧ Hid (Below w1.heap.size w1 wr)) (fun iv _ => n - (intOf iv).toNat)
 case atStart => exact ⟨0, Nat.zero_le _, rfl, Lib.fresh_isBuilder _ _ w1, (Below.refl _ _).alloc (Nat.le_refl _) _⟩
 case round =>
  obtain ⟨j, hj, rfl, HBd, HB⟩ := hrel
  obtain ⟨O, hO⟩ : ∃ O, O = z_bM ss j := ⟨_, rfl⟩
  have HO : Hid (O = z_bM ss j) := hO
  rw [← hO] at HBd
  clear hO
  by_cases hlt : j < n
  ·have hjs : j < ss.length := by rw [← HSL.out]; exact hlt
   obtain ⟨b, off, rfl, hBl, aoA, capA, hcA, q0, q1, q2, q3, q4, q5, q6, hA⟩ := HS.out j hjs
   have hok := HOK.out _ (List.getElem_mem hjs)
   have hos := z_dr HOK.out (by rw [← HSL.out]; omega) j
   rw [← HO.out] at hos
   have hsz := z_ed hok
   obtain ⟨c, xa, xb, e1, hc12, hc1, e2, e3, hxa, hxb, hsh⟩ := z_hK hok
   have HN : Hid ((((O ++ decW j) ++ ⟨#[32]⟩) ++ z_cF c ss[j].to ss[j].name ss[j].args ss[j].undo xa xb) ++ ⟨#[10]⟩ = z_bM ss (j + 1)) := by
    rw [Hid, z_e4 hjs, z_jA, hsh, z_ke, HO.out]
   rw [hsh] at hsz
   rw [e1] at q0
   rw [e2] at q5
   rw [e3] at q6
   obtain ⟨_, z1, z2, z3, z4, z5⟩ := hok
   obtain ⟨st, hst⟩ : ∃ st, st = ss[j] := ⟨_, rfl⟩
   rw [← hst] at q1 q2 q3 q4 hcA hA z1 z2 z3 z4 z5 HN hsz
   obtain ⟨sc0, tt, nm, args, undo, sa, sb⟩ := st
   simp only at q1 q2 q3 q4 hcA hA z1 z2 z3 z4 z5 HN hsz
   have HC : Hid (∀ w', Below w1.heap.size w1 w' → w'.cell? ⟨b, off + j * 7, none⟩ = some (.int .i64 c) ∧ w'.cell? ⟨b, off + j * 7 + 1, none⟩ = some (.string tt) ∧ w'.cell? ⟨b, off + j * 7 + 2, none⟩ = some (.string nm) ∧ w'.cell? ⟨b, off + j * 7 + 3, none⟩ = some (.slice aoA args.length capA) ∧ w'.cell? ⟨b, off + j * 7 + 4, none⟩ = some (.string undo) ∧ w'.cell? ⟨b, off + j * 7 + 5, none⟩ = some (.int .i64 xa) ∧ w'.cell? ⟨b, off + j * 7 + 6, none⟩ = some (.int .i64 xb)) := fun w' h =>
    ⟨(h.cell (p := ⟨b, _, none⟩) hBl).trans q0, (h.cell (p := ⟨b, _, none⟩) hBl).trans q1, (h.cell (p := ⟨b, _, none⟩) hBl).trans q2, (h.cell (p := ⟨b, _, none⟩) hBl).trans q3, (h.cell (p := ⟨b, _, none⟩) hBl).trans q4, (h.cell (p := ⟨b, _, none⟩) hBl).trans q5, (h.cell (p := ⟨b, _, none⟩) hBl).trans q6⟩
   have HAr : Hid (StrsAt 0 w1.heap.size w1 aoA args) := hA
   have hws := HB.out.size
   have hdj := z_cc j (by omega)
   obtain ⟨y0, y1, y2, y3, y4, y5, y6⟩ := HC.out wr HB.out
   have HBw : Hid (Below w.heap.size w wr) := HB1.out.trans (HB.out.mono HB1.out.size)
   have HEw : Hid (Env wr) := HE.out.later HBw.out
   have i1 : (0 : Int) ≤ (j : Int) := by omega
   have i2 : (j : Int) < (n : Int) := by omega
   obtain ⟨X, hX⟩ : ∃ X, X = z_cF c tt nm args undo xa xb := ⟨_, rfl⟩
   have HX : Hid (X = z_cF c tt nm args undo xa xb) := hX
   rw [← hX] at HN hsz
   clear hX
   have hgl := z_nP HBd.out
   have HX1 : Hid ((wr.alloc (.cells #[.int .i64 c, .string tt, .string nm, .slice aoA args.length capA, .string undo, .int .i64 xa, .int .i64 xb] 52 (0, 0))).heap[wr.heap.size]? = some (.cells #[.int .i64 c, .string tt, .string nm, .slice aoA args.length capA, .string undo, .int .i64 xa, .int .i64 xb] 52 (0, 0))) := heap_alloc_new wr _
   have HBa : Hid (Below w1.heap.size w1 (wr.alloc (.cells #[.int .i64 c, .string tt, .string nm, .slice aoA args.length capA, .string undo, .int .i64 xa, .int .i64 xb] 52 (0, 0)))) := HB.out.alloc HB.out.size _
   go_wp2_with fail
   refine (z_eH (j : Int) _ (by omega) (by omega) (HEw.out.later ((Below.refl _ _).alloc (Nat.le_refl _) _))).mono ?_
   rintro e w2 ⟨rfl, hb2⟩
   rw [z_e6]
   have HX2 : Hid (w2.heap[wr.heap.size]? = some (.cells #[.int .i64 c, .string tt, .string nm, .slice aoA args.length capA, .string undo, .int .i64 xa, .int .i64 xb] 52 (0, 0))) := (hb2.block _ (by simp)).trans HX1.out
   have HB2 : Hid (Below w1.heap.size w1 w2) := HBa.out.trans (hb2.mono HBa.out.size)
   have HD2 : Hid (Lib.IsBuilder 74 5 w1.heap.size w1.heap.size (Lib.strCells O) w2) := z_fE (z_fE HBd.out ((Below.refl _ _).alloc (Nat.le_refl _) _)) hb2
   clear hb2 HBd HB y0 y1 y2 y3 y4 y5 y6
   go_wp2_with fail
   refine (z_cZ _ _ (Lib.strCells O) (decW j) w2 HD2.out (by rw [Lib.strCells_length]; omega) HB2.out.size).mono ?_
   rintro e w3 ⟨rfl, hd3, hb3, hk3⟩
   have HX3 : Hid (w3.heap[wr.heap.size]? = some (.cells #[.int .i64 c, .string tt, .string nm, .slice aoA args.length capA, .string undo, .int .i64 xa, .int .i64 xb] 52 (0, 0))) := hk3 wr.heap.size _ HX2.out (by simp; omega) (fun c fz e => by simp at e)
   have HB3 : Hid (Below w1.heap.size w1 w3) := HB2.out.trans hb3
   rw [← z_cy] at hd3
   have HD3 : Hid (Lib.IsBuilder 74 5 w1.heap.size w1.heap.size (Lib.strCells (O ++ decW j)) w3) := hd3
   clear hd3 hb3 hk3
   go_wp2_with fail
   refine (z_dI _ _ (Lib.strCells (O ++ decW j)) 32 w3 HD3.out (by rw [Lib.strCells_length, ByteArray.size_append]; omega) HB3.out.size).mono ?_
   rintro e w4 ⟨rfl, hd4, hb4, hk4⟩
   have HX4 : Hid (w4.heap[wr.heap.size]? = some (.cells #[.int .i64 c, .string tt, .string nm, .slice aoA args.length capA, .string undo, .int .i64 xa, .int .i64 xb] 52 (0, 0))) := hk4 wr.heap.size _ HX3.out (by simp; omega) (fun c fz e => by simp at e)
   have HB4 : Hid (Below w1.heap.size w1 w4) := HB3.out.trans hb4
   have HD4 : Hid (Lib.IsBuilder 74 5 w1.heap.size w1.heap.size (Lib.strCells ((O ++ decW j) ++ ⟨#[32]⟩)) w4) := by rw [Hid, z_cy]; exact hd4
   clear hd4 hb4 hk4
   have q0 : w4.cell? ⟨wr.heap.size, 0, none⟩ = some (.int .i64 c) := by rw [Lib.cell_of_heap HX4.out]; rfl
   have q1 : w4.cell? ⟨wr.heap.size, 1, none⟩ = some (.string tt) := by rw [Lib.cell_of_heap HX4.out]; rfl
   have q2 : w4.cell? ⟨wr.heap.size, 2, none⟩ = some (.string nm) := by rw [Lib.cell_of_heap HX4.out]; rfl
   have q3 : w4.cell? ⟨wr.heap.size, 3, none⟩ = some (.slice aoA args.length capA) := by rw [Lib.cell_of_heap HX4.out]; rfl
   have q4 : w4.cell? ⟨wr.heap.size, 4, none⟩ = some (.string undo) := by rw [Lib.cell_of_heap HX4.out]; rfl
   have q5 : w4.cell? ⟨wr.heap.size, 5, none⟩ = some (.int .i64 xa) := by rw [Lib.cell_of_heap HX4.out]; rfl
   have q6 : w4.cell? ⟨wr.heap.size, 6, none⟩ = some (.int .i64 xb) := by rw [Lib.cell_of_heap HX4.out]; rfl
   go_wp2_with fail
   refine (HShow.out c xa xb tt nm undo args aoA capA w4 hc1 hc12 hxa hxb z1 z2 z3 z5 z4 hcA (HAr.out.later HB4.out) (HE.out.later (HB1.out.trans (HB4.out.mono HB1.out.size)))).mono ?_
   rintro e w5 ⟨rfl, hb5⟩
   rw [← HX.out]
   clear q0 q1 q2 q3 q4 q5 q6
   have HB5 : Hid (Below w1.heap.size w1 w5) := HB4.out.trans (hb5.mono HB4.out.size)
   have HD5 : Hid (Lib.IsBuilder 74 5 w1.heap.size w1.heap.size (Lib.strCells ((O ++ decW j) ++ ⟨#[32]⟩)) w5) := z_fE HD4.out hb5
   clear hb5
   go_wp2_with fail
   refine (z_cZ _ _ (Lib.strCells ((O ++ decW j) ++ ⟨#[32]⟩)) X w5 HD5.out (by rw [Lib.strCells_length, ByteArray.size_append, ByteArray.size_append, show (⟨#[32]⟩ : ByteArray).size = 1 from rfl]; omega) HB5.out.size).mono ?_
   rintro e w6 ⟨rfl, hd6, hb6, _⟩
   have HB6 : Hid (Below w1.heap.size w1 w6) := HB5.out.trans hb6
   rw [← z_cy] at hd6
   have HD6 : Hid (Lib.IsBuilder 74 5 w1.heap.size w1.heap.size (Lib.strCells (((O ++ decW j) ++ ⟨#[32]⟩) ++ X)) w6) := hd6
   clear hd6 hb6
   go_wp2_with fail
   refine (z_dI _ _ (Lib.strCells (((O ++ decW j) ++ ⟨#[32]⟩) ++ X)) 10 w6 HD6.out (by rw [Lib.strCells_length, ByteArray.size_append, ByteArray.size_append, ByteArray.size_append, show (⟨#[32]⟩ : ByteArray).size = 1 from rfl]; omega) HB6.out.size).mono ?_
   rintro e w7 ⟨rfl, hd7, hb7, _⟩
   have HB7 : Hid (Below w1.heap.size w1 w7) := HB6.out.trans hb7
   have HD7 : Hid (Lib.IsBuilder 74 5 w1.heap.size w1.heap.size (Lib.strCells (z_bM ss (j + 1))) w7) := by rw [Hid, ← HN.out, z_cy]; exact hd7
   clear hd7 hb7
   go_wp2
   go_roundw
   case rel => exact ⟨j + 1, by omega, by go_num, HD7, HB7⟩
   case measure => simp [intOf]; omega
  ·have e : j = n := by omega
   subst e
   go_wp2_with fail
   refine (Tryz.Builder_String_any w1.heap.size w1.heap.size O.data.toList wr HBd.out HB.out.size).mono ?_
   rintro e w2 ⟨rfl, hb2⟩
   have HB2 : Hid (Below w.heap.size w w2) := HB1.out.trans ((HB.out.trans hb2).mono HB1.out.size)
   clear hb2
   go_wp2
   go_ret
   have hv : z_bM ss ss.length = O := by rw [← HSL.out, ← HO.out]
   refine ⟨ok1, ss, ?_, HB2.out, HMk.out⟩
   rw [hv]
   rfl
end
section
open Go.RowKit
theorem z_hW (ao : Option Addr) (cap : Nat) (ls : List Ln) (w : World) (hcap : ls.length ≤ cap) (hl : ls.length ≤ 1048576) (hi : LinesAt w.heap.size w ao ls) (hz : ∀ l ∈ ls, LnSz l) (he : Env w) :
  Calls Tryz.prog 19 #[.slice ao ls.length cap] w fun e w' => ∃ (ok : Bool) (ss : List Stp), e = .returned (.string (z_bM ss ss.length)) ∧ Below w.heap.size w w' ∧ MkL ls ok ss :=
 z_jf z_iO ao cap ls w hcap hl hi hz he
theorem z_ki (ao : Option Addr) (cap : Nat) (ls : List Ln) (w : World) (hcap : ls.length ≤ cap) (hx : ls.length ≤ 9223372036854775807) (hm : ∀ l ∈ ls, LnMx l) (hi : LinesAt w.heap.size w ao ls) (he : Env w) :
  Calls Tryz.prog 4 #[.slice ao ls.length cap] w fun e w' => e = .returned (.bool true) ∧ Below w.heap.size w w' := by
 have HI : Hid (LinesAt w.heap.size w ao ls) := hi
 have HM : Hid (∀ l ∈ ls, LnMx l) := hm
 have HE : Hid (Env w) := he
 clear hi hm he
 go_enter Tryz.func4, Tryz.ntmps4
 go_wp2_with fail
 refine (z_fi ao cap ls 1048576 w (by omega) (by omega) hx HM.out HI.out).mono ?_
 rintro e w1 ⟨r, rfl, hr, hb1⟩
 have HB1 : Hid (Below w.heap.size w w1) := hb1
 rcases hr with ⟨rfl, _⟩ | ⟨hr0, hr1⟩
 ·clear hb1
  go_wp2
  go_ret
  exact ⟨rfl, HB1.out⟩
 ·have hbulk : z_eU ls ≤ 1048576 := by omega
  obtain ⟨hlen, hzs⟩ := z_nI hbulk
  have HZ : Hid (∀ l ∈ ls, LnSz l) := hzs
  have hrn : ¬ r < 0 := by omega
  clear hr1 hzs hb1 hbulk
  go_wp2_with fail
  refine (z_cr ao cap ls w1 hlen HZ.out (HI.out.later HB1.out)).mono ?_
  rintro e w2 ⟨ps2, rfl, hb2, hp2, ho2⟩
  have HB2 : Hid (Below w.heap.size w w2) := HB1.out.trans (hb2.mono HB1.out.size)
  have HL2 : Hid (LinesAt w2.heap.size w2 (some ⟨w1.heap.size, 0, none⟩) ls) := by
   obtain ⟨ao', cap', e, _, hl⟩ := z_fj ho2
   simp only [Value.slice.injEq] at e
   obtain ⟨rfl, _, _⟩ := e
   rw [hp2] at hl; exact hl
  clear hb2 hp2 ho2
  go_wp2_with fail
  refine (z_hr _ _ ls w2 (Nat.le_refl _) hlen HL2.out HZ.out).mono ?_
  rintro e w3 ⟨ok3, ss3, rfl, hb3, hmk3⟩
  have HB3 : Hid (Below w.heap.size w w3) := HB2.out.trans (hb3.mono HB2.out.size)
  have HMk3 : Hid (MkL ls ok3 ss3) := hmk3
  obtain ⟨X, hX⟩ : ∃ X, X = z_bM ss3 ss3.length := ⟨_, rfl⟩
  have HX : Hid (X = z_bM ss3 ss3.length) := hX
  rw [← hX]
  clear hb3 hmk3 hX
  go_wp2_with fail
  refine (z_cr ao cap ls w3 hlen HZ.out (HI.out.later HB3.out)).mono ?_
  rintro e w4 ⟨ps4, rfl, hb4, hp4, ho4⟩
  have HB4 : Hid (Below w.heap.size w w4) := HB3.out.trans (hb4.mono HB3.out.size)
  have HL4 : Hid (LinesAt w4.heap.size w4 (some ⟨w3.heap.size, 0, none⟩) ls) := by
   obtain ⟨ao', cap', e, _, hl⟩ := z_fj ho4
   simp only [Value.slice.injEq] at e
   obtain ⟨rfl, _, _⟩ := e
   rw [hp4] at hl; exact hl
  clear hb4 hp4 ho4
  go_wp2_with fail
  refine (z_hW _ _ ls w4 (Nat.le_refl _) hlen HL4.out HZ.out (HE.out.later HB4.out)).mono ?_
  rintro e w5 ⟨ok5, ss5, rfl, hb5, hmk5⟩
  obtain ⟨_, hss⟩ := z_mM HMk3.out hmk5
  have HB5 : Hid (Below w.heap.size w w5) := HB4.out.trans (hb5.mono HB4.out.size)
  have HB45 : Hid (Below w4.heap.size w4 w5) := hb5
  rw [← hss, ← HX.out]
  have hxx : (X.toList == X.toList) = true := by simp
  clear hb5 hmk5 hss
  go_wp2_with fail
  refine (z_cr ao cap ls w5 hlen HZ.out (HI.out.later HB5.out)).mono ?_
  rintro e w7 ⟨ps7, rfl, hb7, hp7, ho7⟩
  have HB7 : Hid (Below w.heap.size w w7) := HB5.out.trans (hb7.mono HB5.out.size)
  have HB47 : Hid (Below w4.heap.size w4 w7) := HB45.out.trans (hb7.mono HB45.out.size)
  have HL7 : Hid (LinesAt w7.heap.size w7 (some ⟨w5.heap.size, 0, none⟩) ls) := by
   obtain ⟨ao', cap', e, _, hl⟩ := z_fj ho7
   simp only [Value.slice.injEq] at e
   obtain ⟨rfl, _, _⟩ := e
   rw [hp7] at hl; exact hl
  clear hb7 hp7 ho7
  go_wp2_with fail
  refine (z_eV _ _ _ _ ls ls w7 hlen hlen (fun l hl => (HZ.out l hl).len) (fun l hl => (HZ.out l hl).len) (HL4.out.later HB47.out) HL7.out).mono ?_
  rintro e w8 ⟨b, rfl, hb, hb8⟩
  have hbt : b = true := hb.2 rfl
  subst hbt
  have HB8 : Hid (Below w.heap.size w w8) := HB7.out.trans (hb8.mono HB7.out.size)
  clear hb hb8
  go_wp2
  go_ret
  exact ⟨rfl, HB8.out⟩
end
section
open Go.RowKit Go.ChangeShapes Go.WideShapes Go.Deep
section
variable {H : Type} {enc : TypeId × Value → H} {P : Program} {w : World} {base : Nat} {spare : Nat → Bool} {held : Bool}
theorem z_iF {t : TypeId} {f0 f1 f2 f3 f4 : Field} {fuel : Nat} {cs : List Value} {x : DataW H × List MemPlace} (ht : P.underlying t = some (.struct #[f0, f1, f2, f3, f4])) (h : DataW.trod enc P w base spare held fuel t cs = some x) :
  ∃ y0 y1 y2 y3 y4 n, cs.length = P.cellsOf t ∧ DataW.trod enc P w base spare held n f0.type ((cs.drop f0.offset).take (P.cellsOf f0.type)) = some y0 ∧
   DataW.trod enc P w base spare held n f1.type ((cs.drop f1.offset).take (P.cellsOf f1.type)) = some y1 ∧ DataW.trod enc P w base spare held n f2.type ((cs.drop f2.offset).take (P.cellsOf f2.type)) = some y2 ∧
   DataW.trod enc P w base spare held n f3.type ((cs.drop f3.offset).take (P.cellsOf f3.type)) = some y3 ∧ DataW.trod enc P w base spare held n f4.type ((cs.drop f4.offset).take (P.cellsOf f4.type)) = some y4 := by
 obtain ⟨xs, n, _, rfl, hl, hlen, hf⟩ := DataW.trod_struct ht h
 match xs, hlen with
 | [y0, y1, y2, y3, y4], _ => exact ⟨y0, y1, y2, y3, y4, n, hl, by simpa using hf 0 f0 rfl, by simpa using hf 1 f1 rfl, by simpa using hf 2 f2 rfl, by simpa using hf 3 f3 rfl, by simpa using hf 4 f4 rfl⟩
theorem z_ng {α : Type} {l : List α} (h : l.length = 5) : ∃ c0 c1 c2 c3 c4, l = [c0, c1, c2, c3, c4] := by
 match l, h with
 | [c0, c1, c2, c3, c4], _ => exact ⟨c0, c1, c2, c3, c4, rfl⟩
theorem z_hm (b off k : Nat) : (⟨b, off, none⟩ : Addr).add k = ⟨b, off + k, none⟩ := by
 unfold Addr.add
 split
 ·rename_i h; subst h; rfl
 ·rfl
theorem z_lp {W : World} {b o : Nat} {v : Value} (h : W.cell? ⟨b, o, none⟩ = some v) : b < W.heap.size := by
 apply Classical.byContradiction
 intro hn
 have : W.heap[b]? = none := by simp; omega
 simp [World.cell?, this] at h
end
theorem z_i9 : Tryz.prog.cellsOf 57 = 5 := by kernel_rfl
theorem z_nU : Tryz.prog.cellsOf 3 = 1 := by kernel_rfl
theorem z_m7 : Tryz.prog.cellsOf 9 = 1 := by kernel_rfl
theorem z_nk : Tryz.prog.cellsOf 45 = 1 := by kernel_rfl
section
variable {H : Type} {enc : TypeId × Value → H} {W : World} {base : Nat} {spare : Nat → Bool} {held : Bool}
theorem z_lz {n : Nat} {c : Value} {y : DataW H × List MemPlace} (h : DataW.trod enc Tryz.prog W base spare held n 45 [c] = some y) :
  ∃ ao cap ss, c = .slice ao ss.length cap ∧ ss.length ≤ cap ∧ ss.length ≤ 9223372036854775807 ∧ (∀ s ∈ ss, s.size ≤ 9223372036854775807) ∧ StrsAt 0 W.heap.size W ao ss := by
 rcases open_strs Tryz.underlying45 Tryz.underlying9 z_m7 h with ⟨e, _⟩ | ⟨a, len, cap, m, Sx, e, _, hl, hm, hmm, _, hx⟩
 ·simp only [List.cons.injEq, and_true] at e
  subst e
  exact ⟨none, 0, [], rfl, Nat.le_refl _, Nat.zero_le _, fun s hs => by simp at hs, fun k hk => by simp at hk⟩
 ·simp only [List.cons.injEq, and_true] at e
  subst e
  have hlm : len ≤ m := by rw [hmm]; split <;> omega
  have e1 : ((List.range len).map Sx).length = len := by simp
  unfold maxLen at hm
  refine ⟨some a, cap, (List.range len).map Sx, by rw [e1], by rw [e1]; exact hl, by rw [e1]; omega, ?_, fun k hk => ?_⟩
  ·intro s hs
   obtain ⟨i, hi, rfl⟩ := List.mem_map.1 hs
   have := (hx i (by have := List.mem_range.1 hi; omega)).2
   unfold maxLen at this
   omega
  ·rw [e1] at hk
   have hc0 := (hx 0 (by omega)).1
   have hck := (hx k (by omega)).1
   obtain ⟨b, off, sp⟩ := a
   have hsp : sp = none := by simpa [Addr.add] using World.cell?_spot hc0
   subst hsp
   rw [z_hm] at hck
   refine ⟨b, off, rfl, ⟨Nat.zero_le _, z_lp hck⟩, ?_⟩
   rw [hck]
   simp [List.getD, hk]
theorem z_lL {n b o : Nat} {cs : List Value} {x : DataW H × List MemPlace} (hc : ∀ k (hk : k < cs.length), W.cell? ⟨b, o + k, none⟩ = some cs[k]) (h : DataW.trod enc Tryz.prog W base spare held n 57 cs = some x) :
  ∃ l : Ln, LineAt W.heap.size W b o l ∧ LnMx l := by
 obtain ⟨y0, y1, y2, y3, y4, m, hl, h0, h1, h2, h3, h4⟩ := z_iF Tryz.underlying57 h
 rw [z_i9] at hl
 obtain ⟨c0, c1, c2, c3, c4, rfl⟩ := z_ng hl
 simp only [z_nU, z_m7, z_nk, List.drop_zero, List.drop_succ_cons, List.take_succ_cons, List.take_zero] at h0 h1 h2 h3 h4
 obtain ⟨id, e0, _, wid⟩ := DataW.trod_int Tryz.underlying3 h0
 obtain ⟨tt, e1, _, hto⟩ := DataW.trod_string Tryz.underlying9 h1
 obtain ⟨name, e2, _, hname⟩ := DataW.trod_string Tryz.underlying9 h2
 obtain ⟨ao, cap, ss, e3, hcap, hlen, hsz, hss⟩ := z_lz h3
 obtain ⟨undo, e4, _, hundo⟩ := DataW.trod_string Tryz.underlying9 h4
 simp only [List.cons.injEq, and_true] at e0 e1 e2 e4
 subst e0 e1 e2 e3 e4
 unfold maxLen at hto hname hundo
 have k0 := hc 0 (by simp)
 have k1 := hc 1 (by simp)
 have k2 := hc 2 (by simp)
 have k3 := hc 3 (by simp)
 have k4 := hc 4 (by simp)
 exact ⟨(id, ⟨tt, name, ss, undo⟩), ⟨ao, cap, hcap, k0, k1, k2, k3, k4, hss⟩, ⟨hlen, by show tt.size ≤ _; omega, by show name.size ≤ _; omega, by show undo.size ≤ _; omega, hsz⟩⟩
theorem z_f8 {r : Reach} {b0 : Nat} {v : Value} {d : DataW H} {p : List MemPlace} (hv : Value.okWide Tryz.prog W r b0 22 v) (h : DataW.Trod enc Tryz.prog W base spare held 22 v d p) :
  ∃ ao cap ls, v = .slice ao ls.length cap ∧ ls.length ≤ cap ∧ ls.length ≤ 9223372036854775807 ∧ (∀ l ∈ ls, LnMx l) ∧ LinesAt W.heap.size W ao ls := by
 obtain ⟨va, vl, vc, rfl⟩ := okWide_slice Tryz.underlying22 hv
 obtain ⟨fuel, h⟩ := h
 rcases open_slice Tryz.underlying22 h with ⟨e, _⟩ | ⟨a, len, cap, m, n, D, Pl, e, _, hl, hm, hmm, _, hx⟩
 ·have e' : Value.slice va vl vc = .slice none 0 0 := (List.cons.inj e).1
  rw [e']
  exact ⟨none, 0, [], rfl, Nat.le_refl _, Nat.zero_le _, fun l hl => by simp at hl, LinesAt.nil⟩
 ·have e' : Value.slice va vl vc = .slice (some a) len cap := (List.cons.inj e).1
  rw [e']
  have hlm : len ≤ m := by rw [hmm]; split <;> omega
  have each : ∀ i, i < len → ∃ l : Ln, (∃ b off, some a = some (⟨b, off, none⟩ : Addr) ∧ b < W.heap.size ∧ LineAt W.heap.size W b (off + i * 5) l) ∧ LnMx l := by
   intro i hi
   obtain ⟨cs', h1, h2⟩ := hx i (by omega)
   rw [z_i9] at h1
   obtain ⟨_, hlen, hcell⟩ := World.cells?_some h1
   obtain ⟨c0, c1, c2, c3, c4, rfl⟩ := z_ng hlen
   obtain ⟨cs0, g1, _⟩ := hx 0 (by omega)
   rw [z_i9] at g1
   obtain ⟨_, hlen0, hcell0⟩ := World.cells?_some g1
   obtain ⟨z0, z1, z2, z3, z4, rfl⟩ := z_ng hlen0
   have q0 : W.cell? ((a.add (0 * 5)).add 0) = some z0 := hcell0 0 (by decide)
   obtain ⟨b, off, sp⟩ := a
   have hsp : sp = none := by
    have := World.cell?_spot q0
    simpa [Addr.add] using this
   subst hsp
   have hc : ∀ k (hk : k < [c0, c1, c2, c3, c4].length), W.cell? ⟨b, off + i * 5 + k, none⟩ = some [c0, c1, c2, c3, c4][k] := by
    intro k hk
    have := hcell k (by simpa using hk)
    rw [z_hm, z_hm] at this
    rw [this]
    simp
   obtain ⟨l, hl1, hl2⟩ := z_lL hc h2
   exact ⟨l, ⟨b, off, rfl, z_lp (hc 0 (by simp)), hl1⟩, hl2⟩
  haveI : Inhabited Ln := ⟨(0, ⟨eS, eS, [], eS⟩)⟩
  obtain ⟨f, hf⟩ := choose_lt each
  have e1 : ((List.range len).map f).length = len := by simp
  unfold maxLen at hm
  refine ⟨some a, cap, (List.range len).map f, by rw [e1], by rw [e1]; exact hl, by rw [e1]; omega, ?_, ?_⟩
  ·intro l hl
   obtain ⟨i, hi, rfl⟩ := List.mem_map.1 hl
   exact (hf i (List.mem_range.1 hi)).2
  ·intro k hk
   rw [e1] at hk
   obtain ⟨b, off, e2, hb, hl⟩ := (hf k hk).1
   refine ⟨b, off, e2, hb, ?_⟩
   rw [List.getElem_map, List.getElem_range]
   exact hl
end
end
section
open Go.RowKit
theorem z_eL {P : Program} {W : World} {n m : String} {g : Nat} (hn : P.globalNamed n = some g) (hm : P.globalNamed m = some g) : W.var? P n = W.var? P m := by
 unfold World.var?; rw [hn, hm]
theorem gPow : Tryz.prog.globalNamed "internal/strconv.uint64pow10" = some 1 := by kernel_rfl
theorem z_oc : (Tryz.prog.globals[1]?).map (·.type) = some 218 := by kernel_rfl
theorem gErr : Tryz.prog.globalNamed "errors.errorType" = some 0 := by kernel_rfl
theorem gFar : Tryz.prog.globalNamed "strconv.ErrRange" = some 6 := by kernel_rfl
theorem z_oe : (Tryz.prog.globals[6]?).map (·.type) = some 76 := by kernel_rfl
theorem gBad : Tryz.prog.globalNamed "strconv.ErrSyntax" = some 5 := by kernel_rfl
theorem z_od : (Tryz.prog.globals[5]?).map (·.type) = some 76 := by kernel_rfl
theorem z_nf : Tryz.prog.cellsOf 202 = 1 := by kernel_rfl
theorem z_mo : Tryz.prog.cellsOf 218 = 20 := by kernel_rfl
theorem z_l : Tryz.prog.cellsOf 252 = 1 := by kernel_rfl
theorem z_kn : Tryz.prog.cellsOf 9 = 1 := by kernel_rfl
theorem z_m4 : "*" ++ "errors.errorString" = "*errors.errorString" := by decide
theorem z_n7 (u : TypeId) (h : Tryz.prog.typeName? 3 u = some "*errors.errorString") : u = 250 :=
 typeName_ptr_named (nm := "errors.errorString") (by rw [z_m4]; kernel_rfl) (by kernel_rfl) (by decide) u (by rw [z_m4]; exact h)
theorem rtT : (Tryz.prog.cutTypes.find? (·.1 == "internal/reflectlite.rtype")).map (·.2) = some 185 := by kernel_rfl
theorem z_nV : ((List.range 279).filter fun t => Tryz.prog.rowNamed t [101, 114, 114, 111, 114]) = [76] := by kernel_rfl
theorem z_nQ : Tryz.prog.types.size = 279 := by kernel_rfl
theorem z_eW {W : World} (h : laidMetH Tryz.prog Rows.fnExactFlowMakeRow.laid W) : Env W := by
 have h' : laidMet Tryz.prog [("math/bits.deBruijn32tab", Rows.laid_math_bits_deBruijn32tab), ("math/bits.deBruijn64tab", Rows.laid_math_bits_deBruijn64tab), ("internal/strconv.uint64pow10", Rows.laid_internal_strconv_uint64pow10), ("strconv.ErrRange", Rows.laid_strconv_ErrRange), ("strconv.ErrSyntax", Rows.laid_strconv_ErrSyntax)] W ∧ handlesMet Tryz.prog [("errors.errorType", Rows.laid_errors_errorType)] W := h
 obtain ⟨hl, hh⟩ := h'
 have hp := hl.tail.tail
 have hr := hp.tail
 have hb := hr.tail
 have tab : Lib.TabIs Tryz.prog W "internal/strconv.uint64pow10" .u64 Lib.pow10Tab := Lib.tabIs_of_head gPow z_oc Tryz.underlying218 Tryz.underlying202 z_nf z_mo hp
 obtain ⟨a1, _, hv1, _⟩ := laid_sentinel hr gFar z_oe Tryz.underlying76 z_n7 Tryz.underlying250 Tryz.underlying252 rfl rfl Tryz.underlying9 z_l z_kn
 obtain ⟨a2, _, hv2, _⟩ := laid_sentinel hb gBad z_od Tryz.underlying76 z_n7 Tryz.underlying250 Tryz.underlying252 rfl rfl Tryz.underlying9 z_l z_kn
 obtain ⟨name, u, ty, e1, e2, e3, e4, e5⟩ := hh _ (List.mem_singleton.2 rfl)
 have en : name = [101, 114, 114, 111, 114] := (Option.some.inj e1).symm
 subst en
 obtain rfl := Option.some.inj (rtT.symm.trans e2)
 have hm : ty ∈ (List.range 279).filter fun t => Tryz.prog.rowNamed t [101, 114, 114, 111, 114] := List.mem_filter.2 ⟨List.mem_range.2 (by rw [← z_nQ]; exact e3), e4⟩
 rw [z_nV] at hm
 obtain rfl := List.mem_singleton.1 hm
 have hty : typeHandle Tryz.prog 76 = .pointer (some ⟨7, 76, none⟩) := by kernel_rfl
 rw [hty] at e5
 refine ⟨fun n hn => ?_, ⟨_, _, fun n hn => (z_eL hn gBad).trans hv2⟩, ⟨_, _, fun n hn => (z_eL hn gFar).trans hv1⟩, fun n hn => (z_eL hn gErr).trans e5⟩
 unfold Lib.TabIs at tab ⊢
 exact (z_eL hn gPow).trans tab
end
end Go.Proofs.YtlbjjbolbopfmaaGreatDoor
