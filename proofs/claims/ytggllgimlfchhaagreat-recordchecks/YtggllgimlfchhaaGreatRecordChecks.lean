/- RecordChecks answers true for all keys, every transaction, entry and message, and leaves them as they are: which of them may be is as the document says, with no condition. -/
import Derived.Test.YtggllgimlfchhaaGreatRZ
import Derived.Test.YtggllgimlfchhaaGreatCH
import Derived.Test.YtggllgimlfchhaaGreatCI
import Derived.Carry
namespace Go.Proofs.YtggllgimlfchhaaGreat
open Go.ChangeShapes Go.WideShapes Go.ChangeAt Go.RowKit
set_option maxRecDepth 100000

theorem recordChecks_walk2 (W : World) (kv : Value) (l : List (Int × Int)) (ct ce cm : Array Value) (t : TxnD) (e : EntD) (m : MsgD) (sk : SeesK W kv l) (st : SeesT W ct t) (se : SeesE W ce e) (oe : OkTs e.txns) (sm : SeesM W cm m) (om : OkM m) :
    Calls Tryz.prog 3 #[kv, .agg ct, .agg ce, .agg cm] W fun e w' => e = .returned (.bool true) ∧ Below W.heap.size W w' := by
  have c7 := fun x (hb : Below W.heap.size W x) => checkKeys_any kv l x (sk.below hb)
  have c8 := fun x (hb : Below W.heap.size W x) => refCheckKeys_any kv l x (sk.below hb)
  have c9 := fun x (hb : Below W.heap.size W x) => checkTxn_any ct t x (st.below hb)
  have c10 := fun x (hb : Below W.heap.size W x) => refCheckTxn_any ct t x (st.below hb)
  have c11 := fun x (hb : Below W.heap.size W x) => checkEntry_any ce e x (se.below hb) oe
  have c12 := fun x (hb : Below W.heap.size W x) => refCheckEntry_any ce e x (se.below hb) oe
  have c13 := fun x (hb : Below W.heap.size W x) => checkMsg_any cm m x (sm.below hb) om
  have c14 := fun x (hb : Below W.heap.size W x) => refCheckMsg_any cm m x (sm.below hb) om
  obtain ⟨_, _, _, _, rfl, t1, t2, t3, t4⟩ := st
  obtain ⟨_, _, rfl, _⟩ := t1
  obtain ⟨_, _, rfl, _⟩ := t2
  obtain ⟨_, _, _, _, rfl, _⟩ := t3
  obtain ⟨_, _, _, _, rfl, _⟩ := t4
  obtain ⟨_, rfl, e1⟩ := se
  obtain ⟨_, _, _, _, rfl, _⟩ := e1
  obtain ⟨_, _, _, rfl, m1, m2, m3⟩ := sm
  obtain ⟨_, _, _, _, rfl, _⟩ := m1
  obtain ⟨_, _, _, _, rfl, _⟩ := m2
  obtain ⟨_, _, rfl, _⟩ := m3
  exact recordChecks_walk c7 c8 c9 c10 c11 c12 c13 c14

set_option maxRecDepth 100000 in
theorem recordChecks_lifted (os : Os) (started : os.Started) (H : Type) (enc : TypeId × Value → H) :
    ReturnsInHanded {} Tryz.checked os 3 .any (Rows.recordChecksSpec.pre6 enc Tryz.prog Tryz.f3 Rows.recordChecksRow.domain false) (Rows.recordChecksSpec.post enc Tryz.prog Tryz.f3 false true false false) := by
  refine returnsInHanded_of_change_sized (C := Tryz.checked) ownK started (by kernel_rfl) Tryz.func3
    (ChangeSpec.witness6 (enc := enc) (C := Tryz.checked) false ⟨#[], #[.slice none 0 0, .agg #[.int .i64 0, .int .i64 0, .slice none 0 0, .slice none 0 0, .slice none 0 0, .slice none 0 0], .agg #[.int .i64 0, .int .i64 0, .int .i64 0, .slice none 0 0], .agg #[.int .i64 0, .int .i64 0, .int .i64 0, .int .i64 0, .int .i64 0, .int .i64 0, .int .i64 0, .bool false, .slice none 0 0, .int .i64 0, .int .i64 0, .int .i64 0, .slice none 0 0, .int .i64 0, .int .i64 0, .int .i64 0, .slice none 0 0]], []⟩ 8 (by kernel_rfl) (by kernel_rfl) (by kernel_rfl) (by kernel_rfl)) ?_
  intro W base args ds gs before hval0 hW _ _ _
  have hval : ∀ (j : Nat) t v, Tryz.f3.params[j]? = some t → args[j]? = some v → Value.okWide Tryz.prog W .any base t v := hval0
  have hW' := hW
  obtain ⟨p, q, hA0, hV, rfl, hfz, _⟩ := hW
  have hA : DataW.TrodAll enc Tryz.prog W 0 (fun _ => true) true Tryz.f3.params.toList args.toList ds p := hA0
  rw [Tryz.params3] at hA hval
  obtain ⟨v0, v1, v2, v3, d0, d1, d2, d3, p0, p1, p2, p3, hargs, rfl, rfl, h0, h1, h2, h3⟩ := trodAll_four hA
  obtain rfl : args = #[v0, v1, v2, v3] := by cases args; simp_all
  obtain ⟨rfl, rfl⟩ := trodVars_none hV
  have k0 := h0
  have lt0 : ∀ x ∈ p0, x.block < W.heap.size := by obtain ⟨m, hm⟩ := k0; exact DataW.trod_lt m _ _ _ hm
  have k1 := h1
  have lt1 : ∀ x ∈ p1, x.block < W.heap.size := by obtain ⟨m, hm⟩ := k1; exact DataW.trod_lt m _ _ _ hm
  have k2 := h2
  have lt2 : ∀ x ∈ p2, x.block < W.heap.size := by obtain ⟨m, hm⟩ := k2; exact DataW.trod_lt m _ _ _ hm
  have k3 := h3
  have lt3 : ∀ x ∈ p3, x.block < W.heap.size := by obtain ⟨m, hm⟩ := k3; exact DataW.trod_lt m _ _ _ hm
  obtain ⟨l, sk⟩ := view_keysA (hval 0 22 v0 rfl rfl) h0
  obtain ⟨ct, t, rfl, st, _, _⟩ := view_txnA (hval 1 26 v1 rfl rfl) h1
  obtain ⟨ce, e, rfl, se, fe⟩ := view_entry (hval 2 29 v2 rfl rfl) h2
  obtain ⟨cm, m, rfl, sm, om⟩ := view_msgA (hval 3 34 v3 rfl rfl) h3
  clear hA0 hval0
  refine (recordChecks_walk2 W v0 l ct ce cm t e m sk st se fe.ok sm om).mono fun e W' ⟨he, bel⟩ => ?_
  subst he
  exact ⟨_, rfl, _, _, _, [], _, [], hW', trodAll_mk1 (shut_bool Tryz.underlying4 _), (trodAll_mk4 (Below.trod laidOut (by kernel_rfl) (of_decide_eq_true (by kernel_rfl)) k0 bel lt0) (Below.trod laidOut (by kernel_rfl) (of_decide_eq_true (by kernel_rfl)) k1 bel lt1) (Below.trod laidOut (by kernel_rfl) (of_decide_eq_true (by kernel_rfl)) k2 bel lt2) (Below.trod laidOut (by kernel_rfl) (of_decide_eq_true (by kernel_rfl)) k3 bel lt3)), rfl, bel.frame _, fun h => by cases h⟩

theorem recordChecks_over : Rows.recordChecksRow.holds Tryz.pinned (OpenSpec.ofChange Rows.recordChecksSpec) :=
  OpenClaim.holds_of_wide 3 Tryz.f3 rfl rfl rfl rfl rfl rfl rfl ⟨rfl, rfl, rfl, rfl, rfl⟩ rfl rfl rfl rfl rfl (by kernel_rfl) Tryz.func3 (by kernel_rfl)
    (of_decide_eq_true (by kernel_rfl)) (by unfold Func.isWrapper; first | (rw [if_pos (by decide +kernel)]; kernel_rfl) | (rw [if_neg (by decide +kernel)]; exact ⟨rfl, rfl⟩))
    (fun os started H enc _ => recordChecks_lifted os started H enc)

theorem recordChecks_holds : Rows.RecordChecksSaid := recordChecks_over

end Go.Proofs.YtggllgimlfchhaaGreat
