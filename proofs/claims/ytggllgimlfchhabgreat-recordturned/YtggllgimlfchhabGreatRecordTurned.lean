/- RecordTurned answers true for every message and all numbers, and leaves the message as it is: a message one bit of whose bytes is turned is refused or another one, refused if the bit lies behind the length; a beginning of it is refused; with no condition. -/
import Derived.Test.YtggllgimlfchhabGreatSA
import Derived.Test.YtggllgimlfchhabGreatGF0
import Derived.Test.YtggllgimlfchhabGreatGF1
import Derived.Carry
namespace Go.Proofs.YtggllgimlfchhabGreat
open Go.ChangeShapes Go.WideShapes Go.ChangeAt Go.RowKit
set_option maxRecDepth 100000

theorem mar_three (m : MsgD) : marE m = 0 ∨ marE m = 3 ∨ marE m = 40 := by
  unfold marE
  split
  · split
    · exact .inr (.inl rfl)
    · exact .inl rfl
  · exact .inr (.inr rfl)
theorem recordTurned_walk {w : World} {cm : Array Value} {m : MsgD} {bit cut : Int} (sm : SeesM w cm m) (om : OkM m) (fm : Fits m) (hbr : bit ≤ 9223372036854775807) :
    Calls Tryz.prog 4 #[.agg cm, .int .i64 bit, .int .i64 cut] w fun e w' => e = .returned (.bool true) ∧ Below w.heap.size w w' := by
  rcases mar_three m with h | h | h
  · by_cases h1 : bit < 0
    · exact turned_n sm om fm h h1
    by_cases h2 : ((marB m).length : Int) ≤ bit / 8
    · exact turned_g sm om fm h (by omega) hbr h2
    · exact turned_m sm om fm h (by omega) hbr (by omega)
  · exact turned_3 sm om fm h
  · exact turned_4 sm om fm h

set_option maxRecDepth 100000 in
theorem recordTurned_lifted (os : Os) (started : os.Started) (H : Type) (enc : TypeId × Value → H) :
    ReturnsInHanded {} Tryz.checked os 4 .any (Rows.recordTurnedSpec.pre6 enc Tryz.prog Tryz.f4 Rows.recordTurnedRow.domain false) (Rows.recordTurnedSpec.post enc Tryz.prog Tryz.f4 false true false false) := by
  refine returnsInHanded_of_change_sized (C := Tryz.checked) ownK started (by kernel_rfl) Tryz.func4
    (ChangeSpec.witness6 (enc := enc) (C := Tryz.checked) false ⟨#[], #[.agg #[.int .i64 0, .int .i64 0, .int .i64 0, .int .i64 0, .int .i64 0, .int .i64 0, .int .i64 0, .bool false, .slice none 0 0, .int .i64 0, .int .i64 0, .int .i64 0, .slice none 0 0, .int .i64 0, .int .i64 0, .int .i64 0, .slice none 0 0], .int .i64 0, .int .i64 0], []⟩ 8 (by kernel_rfl) (by kernel_rfl) (by kernel_rfl) (by kernel_rfl)) ?_
  intro W base args ds gs before hval0 hW _ _ _
  have hval : ∀ (j : Nat) t v, Tryz.f4.params[j]? = some t → args[j]? = some v → Value.okWide Tryz.prog W .any base t v := hval0
  have hW' := hW
  obtain ⟨p, q, hA0, hV, rfl, hfz, _⟩ := hW
  have hA : DataW.TrodAll enc Tryz.prog W 0 (fun _ => true) true Tryz.f4.params.toList args.toList ds p := hA0
  rw [Tryz.params4] at hA hval
  obtain ⟨v0, v1, v2, d0, d1, d2, p0, p1, p2, hargs, rfl, rfl, h0, h1, h2⟩ := trodAll_three hA
  obtain rfl : args = #[v0, v1, v2] := by cases args; simp_all
  obtain ⟨rfl, rfl⟩ := trodVars_none hV
  have k0 := h0
  have k1 := h1
  have k2 := h2
  have lt0 : ∀ x ∈ p0, x.block < W.heap.size := by obtain ⟨m, hm⟩ := k0; exact DataW.trod_lt m _ _ _ hm
  have lt1 : ∀ x ∈ p1, x.block < W.heap.size := by obtain ⟨m, hm⟩ := k1; exact DataW.trod_lt m _ _ _ hm
  have lt2 : ∀ x ∈ p2, x.block < W.heap.size := by obtain ⟨m, hm⟩ := k2; exact DataW.trod_lt m _ _ _ hm
  obtain ⟨cm, m, rfl, sm, om, fm, b0, b1, b2⟩ := view_msgF (hval 0 30 v0 rfl rfl) h0
  obtain ⟨n1, rfl, _⟩ := okWide_int Tryz.underlying3 (hval 1 3 v1 rfl rfl)
  have hb1 : -9223372036854775808 ≤ n1 ∧ n1 ≤ 9223372036854775807 := by
    obtain ⟨fuel, hf⟩ := k1
    obtain ⟨n, e, _, w1⟩ := DataW.trod_int Tryz.underlying3 hf
    have hn : n1 = n := by simpa [Value.cells] using e
    rw [hn]
    exact bounds_i64 w1
  obtain ⟨n2, rfl, _⟩ := okWide_int Tryz.underlying3 (hval 2 3 v2 rfl rfl)
  clear hA0 hval0
  refine (recordTurned_walk sm om ⟨fm, b0, b1, b2⟩ hb1.2).mono fun e W' ⟨he, bel⟩ => ?_
  subst he
  exact ⟨_, rfl, _, _, _, [], _, [], hW', trodAll_mk1 (shut_bool Tryz.underlying4 _), (trodAll_mk3 (Below.trod laidOut (by kernel_rfl) (of_decide_eq_true (by kernel_rfl)) k0 bel lt0) (Below.trod laidOut (by kernel_rfl) (of_decide_eq_true (by kernel_rfl)) k1 bel lt1) (Below.trod laidOut (by kernel_rfl) (of_decide_eq_true (by kernel_rfl)) k2 bel lt2)), rfl, bel.frame _, fun h => by cases h⟩

theorem recordTurned_over : Rows.recordTurnedRow.holds Tryz.pinned (OpenSpec.ofChange Rows.recordTurnedSpec) :=
  OpenClaim.holds_of_wide 4 Tryz.f4 rfl rfl rfl rfl rfl rfl rfl ⟨rfl, rfl, rfl, rfl, rfl⟩ rfl rfl rfl rfl rfl (by kernel_rfl) Tryz.func4 (by kernel_rfl)
    (of_decide_eq_true (by kernel_rfl)) (by unfold Func.isWrapper; first | (rw [if_pos (by decide +kernel)]; kernel_rfl) | (rw [if_neg (by decide +kernel)]; exact ⟨rfl, rfl⟩))
    (fun os started H enc _ => recordTurned_lifted os started H enc)

theorem recordTurned_holds : Rows.RecordTurnedSaid := recordTurned_over

end Go.Proofs.YtggllgimlfchhabGreat
