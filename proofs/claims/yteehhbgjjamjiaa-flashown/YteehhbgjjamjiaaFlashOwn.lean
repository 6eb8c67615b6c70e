/- FlashOwn answers true for every list of bytes, and leaves it as it is: what is handed to a flash is not kept, and what a flash tells is nobody's else. -/
import Derived.Test.YteehhbgjjamjiaaRow
import Derived.Test.YteehhbgjjamjiaaOwnX
namespace Go.Proofs.Yteehhbgjjamjiaa
open Go.ChangeShapes Go.WideShapes Go.ChangeAt Go.RowKit

set_option maxRecDepth 100000 in
theorem flashOwn_lifted (os : Os) (started : os.Started) (H : Type) (enc : TypeId × Value → H) :
    ReturnsInHanded {} Try.checked os 6 .any (Rows.flashOwnSpec.pre6 enc Try.prog Try.f6 Rows.flashOwnRow.domain false) (Rows.flashOwnSpec.post enc Try.prog Try.f6 false true false false) := by
  refine returnsInHanded_of_change_sized (C := Try.checked) ownK started (by kernel_rfl) Try.func6
    (ChangeSpec.witness6 (enc := enc) (C := Try.checked) false ⟨#[], #[.slice none 0 0], []⟩ 8 (by kernel_rfl) (by kernel_rfl) (by kernel_rfl) (by kernel_rfl)) ?_
  intro W base args ds gs before hval0 hW _ hsz0 _
  have hsz : (DataW.weightsEach Try.prog (Try.f6.params.toList ++ Rows.flashOwnSpec.plain.varTypes Try.prog) (ds ++ gs)).all (· ≤ reachBytes) = true := hsz0
  have hval : ∀ (j : Nat) t v, Try.f6.params[j]? = some t → args[j]? = some v → Value.okWide Try.prog W .any base t v := hval0
  have hW' := hW
  obtain ⟨p, q, hA0, hV, rfl, hfz, _⟩ := hW
  have hA : DataW.TrodAll enc Try.prog W 0 (fun _ => true) true Try.f6.params.toList args.toList ds p := hA0
  rw [Try.params6] at hA hval hsz
  obtain ⟨v0, vs0, d0, ds0, p0, q0, hargs, rfl, rfl, h0, r0⟩ := trodAll_cons hA
  obtain ⟨rfl, rfl, rfl⟩ := trodAll_nil r0
  obtain rfl : args = #[v0] := by cases args; simp_all
  obtain ⟨rfl, rfl⟩ := trodVars_none hV
  obtain ⟨a0, len0, cap0, rfl⟩ := okWide_slice Try.underlying28 (hval 0 28 v0 rfl rfl)
  have k0 := h0
  have lt0 : ∀ x ∈ p0, x.block < W.heap.size := by obtain ⟨m, hm⟩ := k0; exact DataW.trod_lt m _ _ _ hm
  obtain ⟨fuel, hf⟩ := h0
  obtain ⟨zs, gb, ob, hlen, hs, hby, hao, hmem, hd⟩ := view_bytes hf
  have hreach : len0 ≤ 140737488351232 := by
    rcases hd with ⟨_, h⟩ | ⟨es, sp, h, he⟩
    · omega
    · have := sized_slice hsz (j := 0) (t := 28) (e := 5) rfl (by rw [h]; rfl) Try.underlying28
      rw [Try.bytes5] at this
      simp only [reachBytes] at this
      omega
  clear hA0 hval0
  have hfr : ∀ t, t < len0 → W.frozen? ⟨gb, ob + t, none⟩ = false := fun t ht => hfz gb (ob + t) (by simp [hmem t ht])
  subst hlen
  have walk : Calls Try.prog 6 #[.slice a0 zs.length cap0] W fun e w' => e = .returned (.bool true) ∧ Below W.heap.size W w' := by
    by_cases hl : zs.length ≤ 256
    · exact flashOwn_short a0 cap0 gb ob zs W hs hby hao hfr hl
    · exact flashOwn_long a0 cap0 gb ob zs W hs hby hao hfr (by omega) (by omega)
  refine walk.mono fun e W' ⟨he, bel⟩ => ?_
  subst he
  exact ⟨_, rfl, _, _, _, [], _, [], hW', trodAll_mk1 (shut_bool Try.underlying4 _), (trodAll_cons_mk (Below.trod laidOut (by kernel_rfl) (of_decide_eq_true (by kernel_rfl)) k0 bel lt0) trodAll_mk0), rfl, bel.frame _, fun h => by cases h⟩

theorem flashOwn_over : Rows.flashOwnRow.holds Try.pinned (OpenSpec.ofChange Rows.flashOwnSpec) :=
  OpenClaim.holds_of_wide 6 Try.f6 rfl rfl rfl rfl rfl rfl rfl ⟨rfl, rfl, rfl, rfl, rfl⟩ rfl rfl rfl rfl rfl (by kernel_rfl) Try.func6 (by kernel_rfl)
    (of_decide_eq_true (by kernel_rfl)) (by unfold Func.isWrapper; first | (rw [if_pos (by decide +kernel)]; kernel_rfl) | (rw [if_neg (by decide +kernel)]; exact ⟨rfl, rfl⟩))
    (fun os started H enc _ => flashOwn_lifted os started H enc)

theorem flashOwn_holds : Rows.FlashOwnSaid := flashOwn_over

end Go.Proofs.Yteehhbgjjamjiaa
