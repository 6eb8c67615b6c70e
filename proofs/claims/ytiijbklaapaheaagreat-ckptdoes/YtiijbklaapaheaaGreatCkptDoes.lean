/- CkptDoes answers true for every number of blocks and every script, and leaves them as they are: each answer, and what stands on the flash, is what the document asks, whatever crashes and whoever writes beside. -/
import Derived.Test.YtiijbklaapaheaaGreatRV
import Derived.Test.YtiijbklaapaheaaGreatKE
namespace Go.Proofs.YtiijbklaapaheaaGreat
open Go.ChangeShapes Go.WideShapes Go.ChangeAt Go.RowKit

set_option maxRecDepth 100000 in
set_option maxHeartbeats 800000 in
theorem does_arg (nb : Int) (h : ¬ (1 ≤ nb ∧ nb ≤ 1024)) (sv : Value) (w : World) :
    Calls Tryz.prog 3 #[.int .i64 nb, sv] w fun e w' => e = .returned (.bool true) ∧ Below w.heap.size w w' := by
  go_enter Tryz.func3, Tryz.ntmps3
  go_wp2_with fail
  refine (new_arg nb w h).mono ?_
  rintro e w1 ⟨rfl, rfl⟩
  go_wp2_with fail
  refine (rnew_arg nb w h).mono ?_
  rintro e w1 ⟨rfl, rfl⟩
  go_wp2_with fail
  refine (begun_any w).mono ?_
  rintro e w3 ⟨rfl, b3⟩
  have HB3 := hide b3
  clear b3
  go_wp2
  go_ret
  exact ⟨rfl, unhide HB3⟩

theorem does_walk (nb : Int) (n : Nat) (os : Nat → OpV) (ao : Option Addr) (lc : Nat) (w : World) (hs : SeesOps w (.slice ao n lc) n os) (hR : ∀ t, t < n → OpR (os t)) :
    Calls Tryz.prog 3 #[.int .i64 nb, .slice ao n lc] w fun e w' => e = .returned (.bool true) ∧ Below w.heap.size w w' := by
  by_cases h : 1 ≤ nb ∧ nb ≤ 1024
  · obtain ⟨k, rfl⟩ := nat_of (show 0 ≤ nb by omega)
    exact does_ok k (by omega) (by omega) n os ao lc w hs hR
  · exact does_arg nb h _ w

set_option maxRecDepth 100000 in
theorem ckptDoes_lifted (os : Os) (started : os.Started) (H : Type) (enc : TypeId × Value → H) :
    ReturnsInHanded {} Tryz.checked os 3 .any (Rows.ckptDoesSpec.pre6 enc Tryz.prog Tryz.f3 Rows.ckptDoesRow.domain false) (Rows.ckptDoesSpec.post enc Tryz.prog Tryz.f3 false true false false) := by
  refine returnsInHanded_of_change_sized (C := Tryz.checked) ownK started (by kernel_rfl) Tryz.func3
    (ChangeSpec.witness6 (enc := enc) (C := Tryz.checked) false ⟨#[], #[.int .i64 0, .slice none 0 0], []⟩ 8 (by kernel_rfl) (by kernel_rfl) (by kernel_rfl) (by kernel_rfl)) ?_
  intro W base args ds gs before hval0 hW _ _ _
  have hval : ∀ (j : Nat) t v, Tryz.f3.params[j]? = some t → args[j]? = some v → Value.okWide Tryz.prog W .any base t v := hval0
  have hW' := hW
  obtain ⟨p, q, hA0, hV, rfl, hfz, _⟩ := hW
  have hA : DataW.TrodAll enc Tryz.prog W 0 (fun _ => true) true Tryz.f3.params.toList args.toList ds p := hA0
  rw [Tryz.params3] at hA hval
  obtain ⟨v0, vs0, d0, ds0, p0, q0, hargs, rfl, rfl, h0, r0⟩ := trodAll_cons hA
  obtain ⟨v1, vs1, d1, ds1, p1, q1, hargs1, rfl, rfl, h1, r1⟩ := trodAll_cons r0
  obtain ⟨rfl, rfl, rfl⟩ := trodAll_nil r1
  obtain rfl : args = #[v0, v1] := by cases args; simp_all
  obtain ⟨rfl, rfl⟩ := trodVars_none hV
  have k1 := h1
  have lt1 : ∀ x ∈ p1, x.block < W.heap.size := by obtain ⟨m, hm⟩ := k1; exact DataW.trod_lt m _ _ _ hm
  obtain ⟨n0, rfl, rfl, rfl, wf0⟩ := open_int Tryz.underlying3 (hval 0 3 v0 rfl rfl) h0
  obtain ⟨a1, len1, cap1, rfl⟩ := okWide_slice Tryz.underlying22 (hval 1 22 v1 rfl rfl)
  obtain ⟨f1, hf1⟩ := h1
  obtain ⟨ops, ho, hr⟩ := view_ops hf1
  clear hA0 hval0
  refine (does_walk n0 len1 ops a1 cap1 W ho hr).mono fun e W' ⟨he, bel⟩ => ?_
  subst he
  exact ⟨_, rfl, _, _, _, [], _, [], hW', trodAll_mk1 (shut_bool Tryz.underlying4 _), (trodAll_cons_mk (shut_int Tryz.underlying3 wf0) (trodAll_cons_mk (Below.trod laidOut (by kernel_rfl) (of_decide_eq_true (by kernel_rfl)) k1 bel lt1) trodAll_mk0)), rfl, bel.frame _, fun h => by cases h⟩

theorem ckptDoes_over : Rows.ckptDoesRow.holds Tryz.pinned (OpenSpec.ofChange Rows.ckptDoesSpec) :=
  OpenClaim.holds_of_wide 3 Tryz.f3 rfl rfl rfl rfl rfl rfl rfl ⟨rfl, rfl, rfl, rfl, rfl⟩ rfl rfl rfl rfl rfl (by kernel_rfl) Tryz.func3 (by kernel_rfl)
    (of_decide_eq_true (by kernel_rfl)) (by unfold Func.isWrapper; first | (rw [if_pos (by decide +kernel)]; kernel_rfl) | (rw [if_neg (by decide +kernel)]; exact ⟨rfl, rfl⟩))
    (fun os started H enc _ => ckptDoes_lifted os started H enc)

theorem ckptDoes_holds : Rows.CkptDoesSaid := ckptDoes_over

end Go.Proofs.YtiijbklaapaheaaGreat
