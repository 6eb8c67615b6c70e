/- RecordSames answers true for all entries and messages, and leaves them as they are: which transactions, entries and messages are the same, and that a clone is the same as what was cloned, are as the document says. -/
import Derived.Test.YtggllgimlfchhaaRT
import Derived.Test.YtggllgimlfchhaaNL
import Derived.Test.YtggllgimlfchhaaNJ
import Derived.Test.YtggllgimlfchhaaMB1
import Derived.Test.YtggllgimlfchhaaMB2
import Derived.Carry
namespace Go.Proofs.Ytggllgimlfchhaa
open Go.ChangeShapes Go.WideShapes Go.ChangeAt Go.RowKit
set_option maxRecDepth 100000

theorem OwnM.seesN {base : Nat} {w : World} {cs : Array Value} {m : MsgD} (h : OwnM base w cs m) (h1 : m.list.length ≤ 2513169434843) (h2 : ∀ t ∈ m.list, SmallTm t) (h3 : m.ent.txns.length ≤ 1256584717421) (h4 : ∀ x ∈ m.ent.txns, SmallT x) : SeesM w cs m := by
  obtain ⟨lv, tv, dv, h0, k1, k2, k3⟩ := h
  exact ⟨lv, tv, dv, h0, k1.seesN h1 h2, k2.seesN h3 h4, (sees_of_own k3).2⟩
theorem recordSames_walk2 (W : World) (a b : EntD) (m n : MsgD) (aa ba : Option Addr) (ac bc : Nat) (cm cn : Array Value)
    (sa : SeesTs W (.slice aa a.txns.length ac) a.txns) (sb : SeesTs W (.slice ba b.txns.length bc) b.txns) (oa : OkTs a.txns) (ob : OkTs b.txns) (la : a.txns.length ≤ 1256584717421) (ta : ∀ t ∈ a.txns, SmallT t)
    (sm : SeesM W cm m) (sn : SeesM W cn n) (om : OkM m) (on : OkM n) (h1 : m.list.length ≤ 2513169434843) (h2 : ∀ t ∈ m.list, SmallTm t) (h3 : m.ent.txns.length ≤ 1256584717421) (h4 : ∀ x ∈ m.ent.txns, SmallT x) (h5 : m.part.data.length ≤ 140737488351232) :
    Calls Try.prog 3 #[.agg #[.int .i64 a.kind, .int .i64 a.frm, .int .i64 a.num, .slice aa a.txns.length ac], .agg #[.int .i64 b.kind, .int .i64 b.frm, .int .i64 b.num, .slice ba b.txns.length bc], .agg cm, .agg cn] W fun e w' => e = .returned (.bool true) ∧ Below W.heap.size W w' := by
  have ea : SeesE W #[.int .i64 a.kind, .int .i64 a.frm, .int .i64 a.num, .slice aa a.txns.length ac] a := ⟨_, rfl, sa⟩
  have eb : SeesE W #[.int .i64 b.kind, .int .i64 b.frm, .int .i64 b.num, .slice ba b.txns.length bc] b := ⟨_, rfl, sb⟩
  have c12 := fun x (hb : Below W.heap.size W x) => sameMsg_any cm cn m n x (sm.below hb) (sn.below hb) om on
  have c13 := fun x (hb : Below W.heap.size W x) => refSameMsg_any cm cn m n x (sm.below hb) (sn.below hb) om on
  have d12 := fun x (hb : Below W.heap.size W x) => sameMsg_any cm cm m m x (sm.below hb) (sm.below hb) om om
  have c15 := fun x (hb : Below W.heap.size W x) => (cloneMsg_any cm m x (sm.below hb) h1 h2 h3 h4 h5).mono (R' := fun e y => ∃ cs', e = .returned (.agg cs') ∧ (∃ bs, OwnM bs y cs' m) ∧ Below x.heap.size x y) (fun e y ⟨cs', he, ho, hy⟩ => ⟨cs', he, ⟨_, ho⟩, hy⟩)
  have d13 := fun (cs' : Array Value) x (ho : ∃ bs, OwnM bs x cs' m) (hb : Below W.heap.size W x) => refSameMsg_any cs' cm m m x (ho.elim fun _ ho => ho.seesN h1 h2 h3 h4) (sm.below hb) om om
  simp only [decide_true] at d12 d13
  obtain ⟨_, _, _, rfl, m1, m2, m3⟩ := sm
  obtain ⟨_, _, _, rfl, n1, n2, n3⟩ := sn
  obtain ⟨_, _, _, _, rfl, _⟩ := m1
  obtain ⟨_, _, _, _, rfl, _⟩ := m2
  obtain ⟨_, _, rfl, _⟩ := m3
  obtain ⟨_, _, _, _, rfl, _⟩ := n1
  obtain ⟨_, _, _, _, rfl, _⟩ := n2
  obtain ⟨_, _, rfl, _⟩ := n3
  have d10 := fun x (hb : Below W.heap.size W x) => sameEntry_any _ _ a a x (ea.below hb) (ea.below hb) oa oa
  have d11 := fun (cs' : Array Value) x (ho : ∃ bs, OwnE bs x cs' a) (hb : Below W.heap.size W x) => refSameEntry_any cs' _ a a x (ho.elim fun _ ho => ho.seesN la ta) (ea.below hb) oa oa
  simp only [decide_true] at d10 d11
  exact recordSames_walk (OE := fun y cs' => ∃ bs, OwnE bs y cs' a) (OM := fun y cs' => ∃ bs, OwnM bs y cs' m) rfl rfl sa sb oa ob ta
    (fun x hb => sameEntry_any _ _ a b x (ea.below hb) (eb.below hb) oa ob) (fun x hb => refSameEntry_any _ _ a b x (ea.below hb) (eb.below hb) oa ob) c12 c13 d10 d12
    (fun x hb => (cloneEntry_any _ a x (ea.below hb) la ta).mono (fun e y ⟨cs', he, ho, hy⟩ => ⟨cs', he, ⟨_, ho⟩, hy⟩)) c15 d11 d13

theorem recordSames_contract (H : Type) (enc : TypeId × Value → H) (W : World) (base : Nat) (args : Array Value) (ds gs : List (DataW H)) (before : List MemPlace)
    (hval : ∀ (j : Nat) t v, Try.f3.params[j]? = some t → args[j]? = some v → Value.okWide Try.prog W .any base t v)
    (hW : DataW.Whole enc Try.prog Try.f3.params.toList Rows.recordSamesSpec.vars false W args.toList ds gs before) (hsz : (DataW.weightsEach Try.prog (Try.f3.params.toList ++ Rows.recordSamesSpec.plain.varTypes Try.prog) (ds ++ gs)).all (· ≤ reachBytes) = true) :
    Calls Try.prog 3 args W fun e W' => ∃ v, e = .returned v ∧ Rows.recordSamesSpec.post enc Try.prog Try.f3 false true false false W args v W' := by
  have hW' := hW
  obtain ⟨p, q, hA0, hV, rfl, _, _⟩ := hW
  have hA : DataW.TrodAll enc Try.prog W 0 (fun _ => true) true Try.f3.params.toList args.toList ds p := hA0
  rw [Try.params3] at hA hval hsz
  obtain ⟨v0, v1, v2, v3, d0, d1, d2, d3, p0, p1, p2, p3, hargs, rfl, rfl, h0, h1, h2, h3⟩ := trodAll_four hA
  obtain rfl : args = #[v0, v1, v2, v3] := by cases args; simp_all
  obtain ⟨rfl, rfl⟩ := trodVars_none hV
  have k0 := h0
  have lt0 : ∀ x ∈ p0, x.block < W.heap.size := by obtain ⟨m, hm⟩ := k0; exact DataW.trod_lt m _ _ _ hm
  have k1 := h1
  have lt1 : ∀ x ∈ p1, x.block < W.heap.size := by obtain ⟨m, hm⟩ := k1; exact DataW.trod_lt m _ _ _ hm
  have k2 := h2
  have lt2 : ∀ x ∈ p2, x.block < W.heap.size := by obtain ⟨m, hm⟩ := k2; exact DataW.trod_lt m _ _ _ hm
  have k3 := h3
  have lt3 : ∀ x ∈ p3, x.block < W.heap.size := by obtain ⟨m, hm⟩ := k3; exact DataW.trod_lt m _ _ _ hm
  obtain ⟨a, aa, ac, rfl, a1, a2, a3, a4⟩ := view_entryR (hval 0 24 v0 rfl rfl) h0 (light_arg hsz (i := 0) rfl rfl)
  obtain ⟨b, ba, bc, rfl, b1, b2, b3, b4⟩ := view_entryR (hval 1 24 v1 rfl rfl) h1 (light_arg hsz (i := 1) rfl rfl)
  obtain ⟨cm, m, rfl, m1, m2, m3, m4, m5, m6, m7⟩ := view_msgR (hval 2 30 v2 rfl rfl) h2 (light_arg hsz (i := 2) rfl rfl)
  obtain ⟨cn, n, rfl, n1, n2, _⟩ := view_msgR (hval 3 30 v3 rfl rfl) h3 (light_arg hsz (i := 3) rfl rfl)
  clear hA0
  refine (recordSames_walk2 W a b m n aa ba ac bc cm cn a1 b1 a2 b2 a3 a4 m1 n1 m2 n2 m3 m4 m5 m6 m7).mono fun e W' ⟨he, bel⟩ => ?_
  subst he
  exact ⟨_, rfl, _, _, _, [], _, [], hW', trodAll_mk1 (shut_bool Try.underlying4 _), (trodAll_mk4 (Below.trod laidOut (by kernel_rfl) (of_decide_eq_true (by kernel_rfl)) k0 bel lt0) (Below.trod laidOut (by kernel_rfl) (of_decide_eq_true (by kernel_rfl)) k1 bel lt1) (Below.trod laidOut (by kernel_rfl) (of_decide_eq_true (by kernel_rfl)) k2 bel lt2) (Below.trod laidOut (by kernel_rfl) (of_decide_eq_true (by kernel_rfl)) k3 bel lt3)), rfl, bel.frame _, fun h => by cases h⟩

set_option maxRecDepth 100000 in
theorem recordSamesSaid_lifted (os : Os) (started : os.Started) (H : Type) (enc : TypeId × Value → H) :
    ReturnsInHanded {} Try.checked os 3 .any (Rows.recordSamesSpec.pre6 enc Try.prog Try.f3 Rows.recordSamesRow.domain false) (Rows.recordSamesSpec.post enc Try.prog Try.f3 false true false false) := by
  refine returnsInHanded_of_change_sized (C := Try.checked) ownK started (by kernel_rfl) Try.func3
    (ChangeSpec.witness6 (enc := enc) (C := Try.checked) false ⟨#[], #[.agg #[.int .i64 0, .int .i64 0, .int .i64 0, .slice none 0 0], .agg #[.int .i64 0, .int .i64 0, .int .i64 0, .slice none 0 0], .agg #[.int .i64 0, .int .i64 0, .int .i64 0, .int .i64 0, .int .i64 0, .int .i64 0, .int .i64 0, .bool false, .slice none 0 0, .int .i64 0, .int .i64 0, .int .i64 0, .slice none 0 0, .int .i64 0, .int .i64 0, .int .i64 0, .slice none 0 0], .agg #[.int .i64 0, .int .i64 0, .int .i64 0, .int .i64 0, .int .i64 0, .int .i64 0, .int .i64 0, .bool false, .slice none 0 0, .int .i64 0, .int .i64 0, .int .i64 0, .slice none 0 0, .int .i64 0, .int .i64 0, .int .i64 0, .slice none 0 0]], []⟩ 8 (by kernel_rfl) (by kernel_rfl) (by kernel_rfl) (by kernel_rfl)) ?_
  intro W base args ds gs before hval hW _ hsz _
  exact recordSames_contract H enc W base args ds gs before hval hW hsz

theorem recordSamesSaid_over : Rows.recordSamesRow.holds Try.pinned (OpenSpec.ofChange Rows.recordSamesSpec) :=
  OpenClaim.holds_of_wide 3 Try.f3 rfl rfl rfl rfl rfl rfl rfl ⟨rfl, rfl, rfl, rfl, rfl⟩ rfl rfl rfl rfl rfl (by kernel_rfl) Try.func3 (by kernel_rfl)
    (of_decide_eq_true (by kernel_rfl)) (by unfold Func.isWrapper; first | (rw [if_pos (by decide +kernel)]; kernel_rfl) | (rw [if_neg (by decide +kernel)]; exact ⟨rfl, rfl⟩))
    (fun os started H enc _ => recordSamesSaid_lifted os started H enc)

theorem recordSamesSaid_holds : Rows.RecordSamesSaid := recordSamesSaid_over

end Go.Proofs.Ytggllgimlfchhaa
