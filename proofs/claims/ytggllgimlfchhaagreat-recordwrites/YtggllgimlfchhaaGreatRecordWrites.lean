/- RecordWrites answers true for every entry and every message, and leaves them as they are: the bytes of any entry and of any message, and the errors, are as the document says, with no condition. -/
import Derived.Test.YtggllgimlfchhaaGreatSA
import Derived.Test.YtggllgimlfchhaaGreatSB
import Derived.Test.YtggllgimlfchhaaGreatDM
import Derived.Test.YtggllgimlfchhaaGreatDF
import Derived.Test.YtggllgimlfchhaaGreatDH
import Derived.Carry
namespace Go.Proofs.YtggllgimlfchhaaGreat
open Go.ChangeShapes Go.WideShapes Go.ChangeAt Go.RowKit
set_option maxRecDepth 100000

theorem marB_byt {m : MsgD} (hf : FitM m) (ho : OkM m) : Byt (marB m) := by
  unfold marB
  split
  · unfold sealB
    exact ((putL_byt _).append (msgB_byt hf ho)).append (lowL_byte _ _)
  · exact byt_nil
theorem recordWrites_walk2 (W : World) (ce cm : Array Value) (e : EntD) (m : MsgD) (se : SeesE W ce e) (fe : FitE e) (sm : SeesM W cm m) (om : OkM m) (fm : FitM m)
    (hk : -9223372036854775808 ≤ m.kind ∧ m.kind ≤ 9223372036854775807) (hf : -9223372036854775808 ≤ m.frm ∧ m.frm ≤ 9223372036854775807) (ht : -9223372036854775808 ≤ m.to ∧ m.to ≤ 9223372036854775807) :
    Calls Tryz.prog 4 #[.agg ce, .agg cm] W fun e w' => e = .returned (.bool true) ∧ Below W.heap.size W w' := by
  have c16 := fun x (hb : Below W.heap.size W x) => refEntry_any ce e x (se.below hb) fe
  have c17 := fun x (hb : Below W.heap.size W x) => marshal_any cm m x (sm.below hb) om fm hk hf ht
  have c18 := fun x (hb : Below W.heap.size W x) => refMarshal_any cm m x (sm.below hb) om fm hf ht
  have c15 := fun x (hb : Below W.heap.size W x) => Entry_any W.heap.size ce e x hb.size (by obtain ⟨tv, rfl, h⟩ := se; exact ⟨tv, rfl, (StTs.of h).on hb⟩) fe
  have y1 : Byt (if mayE e then entB e else []) := by
    split
    · exact entB_byt fe
    · exact byt_nil
  have y2 : Byt (marB m) := marB_byt fm om
  obtain ⟨_, rfl, e1⟩ := se
  obtain ⟨_, _, _, _, rfl, _⟩ := e1
  obtain ⟨_, _, _, rfl, m1, m2, m3⟩ := sm
  obtain ⟨_, _, _, _, rfl, _⟩ := m1
  obtain ⟨_, _, _, _, rfl, _⟩ := m2
  obtain ⟨_, _, rfl, _⟩ := m3
  exact recordWrites_walk c15 c16 c17 c18 y1 y2

set_option maxRecDepth 100000 in
theorem recordWrites_lifted (os : Os) (started : os.Started) (H : Type) (enc : TypeId × Value → H) :
    ReturnsInHanded {} Tryz.checked os 4 .any (Rows.recordWritesSpec.pre6 enc Tryz.prog Tryz.f4 Rows.recordWritesRow.domain false) (Rows.recordWritesSpec.post enc Tryz.prog Tryz.f4 false true false false) := by
  refine returnsInHanded_of_change_sized (C := Tryz.checked) ownK started (by kernel_rfl) Tryz.func4
    (ChangeSpec.witness6 (enc := enc) (C := Tryz.checked) false ⟨#[], #[.agg #[.int .i64 0, .int .i64 0, .int .i64 0, .slice none 0 0], .agg #[.int .i64 0, .int .i64 0, .int .i64 0, .int .i64 0, .int .i64 0, .int .i64 0, .int .i64 0, .bool false, .slice none 0 0, .int .i64 0, .int .i64 0, .int .i64 0, .slice none 0 0, .int .i64 0, .int .i64 0, .int .i64 0, .slice none 0 0]], []⟩ 8 (by kernel_rfl) (by kernel_rfl) (by kernel_rfl) (by kernel_rfl)) ?_
  intro W base args ds gs before hval0 hW _ _ _
  have hval : ∀ (j : Nat) t v, Tryz.f4.params[j]? = some t → args[j]? = some v → Value.okWide Tryz.prog W .any base t v := hval0
  have hW' := hW
  obtain ⟨p, q, hA0, hV, rfl, hfz, _⟩ := hW
  have hA : DataW.TrodAll enc Tryz.prog W 0 (fun _ => true) true Tryz.f4.params.toList args.toList ds p := hA0
  rw [Tryz.params4] at hA hval
  obtain ⟨v0, vs0, d0, ds0, p0, q0, hargs, rfl, rfl, h0, r0⟩ := trodAll_cons hA
  obtain ⟨v1, vs1, d1, ds1, p1, q1, hargs1, rfl, rfl, h1, r1⟩ := trodAll_cons r0
  obtain ⟨rfl, rfl, rfl⟩ := trodAll_nil r1
  obtain rfl : args = #[v0, v1] := by cases args; simp_all
  obtain ⟨rfl, rfl⟩ := trodVars_none hV
  have k0 := h0
  have k1 := h1
  have lt0 : ∀ x ∈ p0, x.block < W.heap.size := by obtain ⟨m, hm⟩ := k0; exact DataW.trod_lt m _ _ _ hm
  have lt1 : ∀ x ∈ p1, x.block < W.heap.size := by obtain ⟨m, hm⟩ := k1; exact DataW.trod_lt m _ _ _ hm
  obtain ⟨ce, e, rfl, se, fe⟩ := view_entry (hval 0 29 v0 rfl rfl) h0
  obtain ⟨cm, m, rfl, sm, om, fm, b0, b1, b2⟩ := view_msgF (hval 1 34 v1 rfl rfl) h1
  clear hA0 hval0
  refine (recordWrites_walk2 W ce cm e m se fe sm om fm b0 b1 b2).mono fun e W' ⟨he, bel⟩ => ?_
  subst he
  exact ⟨_, rfl, _, _, _, [], _, [], hW', trodAll_mk1 (shut_bool Tryz.underlying4 _), (trodAll_cons_mk (Below.trod laidOut (by kernel_rfl) (of_decide_eq_true (by kernel_rfl)) k0 bel lt0) (trodAll_cons_mk (Below.trod laidOut (by kernel_rfl) (of_decide_eq_true (by kernel_rfl)) k1 bel lt1) trodAll_mk0)), rfl, bel.frame _, fun h => by cases h⟩

theorem recordWrites_over : Rows.recordWritesRow.holds Tryz.pinned (OpenSpec.ofChange Rows.recordWritesSpec) :=
  OpenClaim.holds_of_wide 4 Tryz.f4 rfl rfl rfl rfl rfl rfl rfl ⟨rfl, rfl, rfl, rfl, rfl⟩ rfl rfl rfl rfl rfl (by kernel_rfl) Tryz.func4 (by kernel_rfl)
    (of_decide_eq_true (by kernel_rfl)) (by unfold Func.isWrapper; first | (rw [if_pos (by decide +kernel)]; kernel_rfl) | (rw [if_neg (by decide +kernel)]; exact ⟨rfl, rfl⟩))
    (fun os started H enc _ => recordWrites_lifted os started H enc)

theorem recordWrites_holds : Rows.RecordWritesSaid := recordWrites_over

end Go.Proofs.YtggllgimlfchhaaGreat
