/- RunAnswer answers at every ask as the specification does, number by number, and leaves the ask as it was: no condition. -/
import Derived.Test.YtglibemklnamdaaLaw
import Derived.ProofKit
import Derived.OpenShut
import Derived.ShutString
import Derived.ChangeOld
import Derived.Lib.SmallJoins
namespace Go.Proofs.Ytglibemklnamdaa.Done
open Go.ChangeShapes Go.WideShapes Go.ChangeAt Go.RowKit Go.Joins
open Go.ChangeMaps (open_string shut_string)

theorem own : ownKnob Try.prog.godebug = none := by kernel_rfl
theorem laidOut : laidOutB Try.prog = true := by kernel_rfl
theorem cells24 : Try.prog.cellsOf 24 = 4 := by kernel_rfl

theorem add_none (b off k : Nat) : (⟨b, off, none⟩ : Addr).add k = ⟨b, off + k, none⟩ := by
  unfold Addr.add
  split
  · rename_i h; subst h; rfl
  · rfl

set_option maxRecDepth 100000 in
theorem lifted (os : Os) (started : os.Started) (H : Type) (enc : TypeId × Value → H) :
    ReturnsInHanded {} Try.checked os 3 .any (Rows.fnExactRunAnswerSpec.pre6 enc Try.prog Try.f3 Rows.fnExactRunAnswerRow.domain false) (Rows.fnExactRunAnswerSpec.post enc Try.prog Try.f3 false true false false) := by
  refine returnsInHanded_of_change (C := Try.checked) own started (by kernel_rfl) Try.func3
    (ChangeSpec.witness6 (enc := enc) (C := Try.checked) false ⟨#[], #[.agg #[.int .i64 0, .string ByteArray.empty, .string ByteArray.empty, .slice none 0 0]], []⟩ 8 (by kernel_rfl) (by kernel_rfl) (by kernel_rfl) (by kernel_rfl)) ?_
  intro W base args ds gs before hval0 hW hcnd _
  have hval : ∀ (j : Nat) t v, Try.f3.params[j]? = some t → args[j]? = some v → Value.okWide Try.prog W .any base t v := hval0
  have hW' := hW
  obtain ⟨p, q, hA0, hV, rfl, hfz, hnd⟩ := hW
  have hA : DataW.TrodAll enc Try.prog W 0 (fun _ => true) true Try.f3.params.toList args.toList ds p := hA0
  rw [Try.params3] at hA hval
  obtain ⟨v0, vs0, d0, ds0, p0, q0, hargs, rfl, rfl, h0, r0⟩ := trodAll_cons hA
  obtain ⟨rfl, rfl, rfl⟩ := trodAll_nil r0
  obtain rfl : args = #[v0] := by cases args; simp_all
  obtain ⟨rfl, rfl⟩ := trodVars_none hV
  have k0 := h0
  have lt0 : ∀ x ∈ p0, x.block < W.heap.size := by obtain ⟨m, hm⟩ := k0; exact DataW.trod_lt m _ _ _ hm
  obtain ⟨c0, c1, c2, c3, y0, y1, y2, y3, m, rfl, rfl, hp0, hy0, hy1, hy2, hy3⟩ := open_agg4 Try.underlying24 (by kernel_rfl) cells24 (hval 0 24 v0 rfl rfl) h0
  obtain ⟨id, e0, g0, wid⟩ := DataW.trod_int Try.underlying3 hy0
  obtain ⟨key, e1, g1, hkey⟩ := DataW.trod_string Try.underlying9 hy1
  obtain ⟨name, e2, g2, hname⟩ := DataW.trod_string Try.underlying9 hy2
  simp at e0 e1 e2
  subst e0 e1 e2
  have hwalk : ∃ ao len cap zs, c3 = .slice ao len cap ∧ zs.length = len ∧ len ≤ 9223372036854775807 ∧ IntsAt 0 W.heap.size W ao zs := by
    rcases open_ints Try.underlying22 Try.underlying3 (by kernel_rfl) hy3 with ⟨hcs, _⟩ | ⟨x, l, c, zs, hcs, _, hl, hm, hz, hyx, hcell, hwz⟩
    · simp at hcs
      exact ⟨none, 0, 0, [], hcs, rfl, by decide, fun k hk => by simp at hk⟩
    · simp at hcs
      unfold maxLen at hm
      simp at hz
      refine ⟨_, l, c, zs.take l, hcs, by simp; omega, by omega, fun k hk => ?_⟩
      have hk' : k < l := by simp at hk; omega
      have hc := hcell k (by omega)
      obtain ⟨b, off, spot⟩ := x
      have hc0 := hcell 0 (by omega)
      have hspot : spot = none := by simpa [Addr.add] using World.cell?_spot hc0
      subst hspot
      rw [add_none] at hc
      have hc' := hc
      refine ⟨b, off, rfl, ⟨Nat.zero_le _, ?_⟩, ?_⟩
      · apply Classical.byContradiction
        intro hn
        have : W.heap[b]? = none := by simp; omega
        simp [World.cell?, this] at hc'
      · rw [hc']
        simp [List.getD, hk']
  obtain ⟨ao, len, cap, zs, rfl, rfl, hlen, hints⟩ := hwalk
  clear hA0 hval0
  unfold maxLen at hkey hname
  refine (law_any id key name ao cap zs W hkey hname hlen hints).mono fun e W' ⟨he, bel⟩ => ?_
  subst he
  exact ⟨_, rfl, _, _, _, [], _, [], hW', trodAll_mk1 (shut_bool Try.underlying4 _), (trodAll_cons_mk (Below.trod laidOut (by kernel_rfl) (of_decide_eq_true (by kernel_rfl)) k0 bel lt0) trodAll_mk0), rfl, bel.frame _, fun h => by cases h⟩

theorem over : Rows.fnExactRunAnswerRow.holds Try.pinned (OpenSpec.ofChange Rows.fnExactRunAnswerSpec) :=
  OpenClaim.holds_of_wide 3 Try.f3 rfl rfl rfl rfl rfl rfl rfl ⟨rfl, rfl, rfl, rfl, rfl⟩ rfl rfl rfl rfl rfl (by kernel_rfl) Try.func3 (by kernel_rfl)
    (of_decide_eq_true (by kernel_rfl)) (by unfold Func.isWrapper; first | (rw [if_pos (by decide +kernel)]; kernel_rfl) | (rw [if_neg (by decide +kernel)]; exact ⟨rfl, rfl⟩))
    (fun os started H enc _ => lifted os started H enc)
end Go.Proofs.Ytglibemklnamdaa.Done
namespace Go.Proofs.Ytglibemklnamdaa
theorem runAnswer_holds : Rows.FnExactRunAnswerSaid := Done.over
#print axioms runAnswer_holds
end Go.Proofs.Ytglibemklnamdaa
