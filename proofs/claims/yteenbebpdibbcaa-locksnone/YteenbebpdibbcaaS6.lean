/- Rows of pointers; give. -/
import Derived.Test.YteenbebpdibbcaaS5
namespace Go.Proofs.Yteenbebpdibbcaa
open Go.RowKit
set_option maxRecDepth 100000

theorem wpList_append_run {P : Program} {w w' : World} {ops : Array Oper} {rest : List Oper} {o : Oper} {a : Act} {Q : Exit → Act → World → Prop} (hg : o.guard = none) (s x : Operand) (t u : TypeId)
    (ho : o.op = .call { callee := .builtin .append, args := #[s, x], argTypes := #[t, u] }) {v sv v' : Value} (hs : a.eval s = v) (hx : a.eval x = sv) (hr : (Builtin.append_ #[t, u] o.type #[v, sv]).run P w = .ok v' w')
    (h : wpList P ops Q rest (a.put o.dst v') w') : wpList P ops Q (o :: rest) a w := by
  refine wpList_plain hg fun K hK => ?_
  unfold Oper.wp
  simp [execOp, ho, resolve, invoke, builtin, hs, hx, hr, Result.andThen]
  exact hK _ _ h
def aC (b : Nat) : List Value := [PN b]
theorem aC_len (x : Nat) : (aC x).length = 1 := rfl
theorem aC_one (x : Nat) : ∀ u ∈ aC x, u.oneCell' = true := by
  intro u hu
  simp only [aC, List.mem_cons, List.not_mem_nil, or_false] at hu
  rw [hu]; rfl
theorem flat_aC (l : List Nat) : l.flatMap aC = l.map PN := by
  induction l with
  | nil => rfl
  | cons x r ih => rw [List.flatMap_cons, ih]; rfl
theorem Try.info86 : (Try.prog.info? 86).map (fun i => (i.zero, i.size, i.bytes)) = some (some nilP, 1, 8) := by kernel_rfl
theorem Try.info91 : (Try.prog.info? 91).map (fun i => (i.zero, i.size, i.bytes)) = some (some nilP, 1, 8) := by kernel_rfl
theorem append_as {w : World} {base : Nat} {v v2 : Value} {n : Nat} {l l2 : List Nat} (ty : TypeId) (hown : w.ownsRow base 86 1 v n (l.flatMap aC)) (hs : SeesL aC 1 w v2 l2) (hl : n + l2.length ≤ 4398046511104) (hbase : base ≤ w.heap.size) :
    ∃ v' w', (Builtin.append_ #[97, 97] ty #[v, v2]).run Try.prog w = .ok v' w' ∧ w'.ownsRow base 86 1 v' (n + l2.length) ((l ++ l2).flatMap aC) ∧ w.grownBy w' v.ownBlock := by
  obtain ⟨i, hi, hz, hs1, hb⟩ := info_parts Try.info86
  rw [List.flatMap_append]
  exact run_append_L aC_len aC_one base 97 ty 86 i _ 8 Try.underlying97 hi hz hs1 hb rfl (by decide) hown hs (by unfold maxLen; omega) (by omega) hbase
theorem sees_oneA (w : World) (k : Nat) (T : TypeId) : SeesL aC 1 (w.alloc (.cells #[PN k] T)) (.slice (some ⟨w.heap.size, 0, none⟩) 1 1) [k] := by
  refine ⟨_, _, w.heap.size, 0, rfl, Nat.le_refl _, by simp, fun h => by simp at h, fun _ => rfl, fun t x h j hj => ?_⟩
  obtain rfl : t = 0 := by
    have := (List.getElem?_eq_some_iff.1 h).1
    simp at this; omega
  obtain rfl : j = 0 := by omega
  simp only [List.getElem?_cons_zero, Option.some.injEq] at h
  subst h
  rw [cell_at (heap_alloc_new w _)]
  rfl
theorem Below.grown {B : Nat} {a w w' : World} {row : Option Nat} (h : Below B a w) (hg : w.grownBy w' row) (hB : B ≤ w.heap.size) (hr : ∀ k, row = some k → B ≤ k) : Below B a w' :=
  ⟨hg.os.trans h.os, hg.tape.trans h.tape, hg.output.trans h.output, Nat.le_trans h.size hg.size, fun k hk => (hg.block k (by omega) (fun e => by have := hr k e.symm; omega)).trans (h.block k hk)⟩
section
variable {B : Nat → Prop} {lb mq mp : Nat} {w w' : World} {S : Sto}
/-- A row of askers has grown. -/
theorem Mem.gr (h : Mem B lb mq mp w S) {base n : Nat} {v : Value} {xs : List Value} {T : TypeId} (hT : T ≠ 74 ∧ T ≠ 109 ∧ T ≠ 101 ∧ T ≠ 89 ∧ T ≠ 130 ∧ T ≠ 91) (ho : w.ownsRow base T 1 v n xs) (hg : w.grownBy w' v.ownBlock) : Mem B lb mq mp w' S := by
  have far : ∀ {j : Nat} {cs : Array Value} {T' : TypeId}, w.heap[j]? = some (.cells cs T') → T' ≠ T → w'.heap[j]? = w.heap[j]? := fun {j cs T'} hj hne => hg.block j (lt_of hj) fun e => by
    obtain ⟨cur, hc⟩ := own_in ho e.symm
    exact ne_ty hc hj hne rfl
  refine ⟨(far h.top (Ne.symm hT.1)).trans h.top, fun b c e => ⟨(far (h.cs b c e).1 (Ne.symm hT.2.1)).trans (h.cs b c e).1, (h.cs b c e).2⟩, fun b c e => ⟨(far (h.sp b c e).1 (Ne.symm hT.2.2.1)).trans (h.sp b c e).1, (h.sp b c e).2⟩, fun b c e => ⟨(far (h.ak b c e).1 (Ne.symm hT.2.2.2.1)).trans (h.ak b c e).1, (h.ak b c e).2⟩, fun b c e => ⟨(far (h.ln b c e).1 (Ne.symm hT.2.2.2.2.1)).trans (h.ln b c e).1, (h.ln b c e).2⟩, fun b c e => ⟨own_keep (h.row b c e).1 fun g hg' => ?_, (h.row b c e).2⟩, h.ap, h.q.keep (hg.block _ h.q.lt fun e => ?_), h.p.keep (hg.block _ h.p.lt fun e => ?_), h.bt⟩
  · obtain ⟨cur, hc⟩ := own_in (h.row b c e).1 hg'
    exact far hc (Ne.symm hT.2.2.2.2.2)
  · obtain ⟨cur, hc⟩ := own_in ho e.symm
    exact h.q.apart hc rfl
  · obtain ⟨cur, hc⟩ := own_in ho e.symm
    exact h.p.apart hc rfl
end
def mayS (S : Sto) (c : Cl) : Bool := match c.ah with
  | none => true
  | some a => match S.cs a with
    | some d => !c.ex && !d.ex && d.hd
    | none => false
def giv1 (S : Sto) (p : Nat) (c : Cl) : Sto := { S with cs := up S.cs p { c with hd := true }, ak := md S.ak c.by' fun a => { a with lacks := a.lacks - 1 } }
def gotS (S : Sto) (b : Nat) : List Nat := match S.ak b with
  | some a => if a.lacks - 1 = 0 then [b] else []
  | none => []
/-- Who may have the lock has it, from a place of a queue on; who is ready by that. -/
def giv : Sto → List Nat → Sto × List Nat
  | S, [] => (S, [])
  | S, p :: r => match S.cs p with
    | none => (S, [])
    | some c => if c.hd || !mayS S c then (S, []) else ((giv (giv1 S p c) r).1, gotS S c.by' ++ (giv (giv1 S p c) r).2)
/-- Places one behind the other. -/
def BeL (cs : Nat → Option Cl) : List Nat → Prop
  | [] => True
  | p :: r => (∃ c, cs p = some c ∧ c.be = r.head?) ∧ BeL cs r
theorem BeL.keep {cs cs' : Nat → Option Cl} (h : ∀ p c, cs p = some c → ∃ c', cs' p = some c' ∧ c'.be = c.be) : ∀ {l : List Nat}, BeL cs l → BeL cs' l
  | [], _ => trivial
  | p :: r, ⟨⟨c, h1, h2⟩, h3⟩ => by
    obtain ⟨c', k1, k2⟩ := h p c h1
    exact ⟨⟨c', k1, k2.trans h2⟩, BeL.keep h h3⟩
def mes (ps : List Nat) : Value → Nat
  | .pointer (some a) => ps.length - ps.idxOf a.block
  | _ => 0
/-- What give wants: askers whose numbers of locks are no giants. -/
structure GOk (S : Sto) (m : Nat) : Prop where
  by' : ∀ p c, S.cs p = some c → ∃ a, S.ak c.by' = some a
  ah : ∀ p c x, S.cs p = some c → c.ah = some x → ∃ d, S.cs x = some d
  lk : ∀ b a, S.ak b = some a → (m : Int) - 4398046511104 ≤ a.lacks ∧ a.lacks ≤ 4398046511104
theorem GOk.step {S : Sto} {m p : Nat} {c : Cl} (h : GOk S (m + 1)) (hp : S.cs p = some c) : GOk (giv1 S p c) m := by
  have hcs : ∀ x d, up S.cs p { c with hd := true } x = some d → ∃ d', S.cs x = some d' ∧ d.by' = d'.by' ∧ d.ah = d'.ah := fun x d hd => by
    by_cases e : x = p
    · subst e
      rw [up_same] at hd
      injection hd with hd
      subst hd
      exact ⟨c, hp, rfl, rfl⟩
    · rw [up_other _ _ e] at hd
      exact ⟨d, hd, rfl, rfl⟩
  have hin : ∀ x d, S.cs x = some d → ∃ d', up S.cs p { c with hd := true } x = some d' := fun x d hd => by
    by_cases e : x = p
    · subst e; exact ⟨_, up_same _ _ _⟩
    · exact ⟨d, (up_other _ _ e).trans hd⟩
  refine ⟨fun x d hd => ?_, fun x d y hd hy => ?_, fun b a ha => ?_⟩
  · obtain ⟨d', h1, h2, _⟩ := hcs x d hd
    obtain ⟨a, ha⟩ := h.by' x d' h1
    rw [h2]
    by_cases e : d'.by' = c.by'
    · exact ⟨{ a with lacks := a.lacks - 1 }, by rw [e] at ha ⊢; show md S.ak c.by' _ c.by' = _; unfold md; rw [if_pos rfl, ha]; rfl⟩
    · exact ⟨a, by show md S.ak c.by' _ d'.by' = _; simp [md, e, ha]⟩
  · obtain ⟨d', h1, _, h3⟩ := hcs x d hd
    obtain ⟨z, hz⟩ := h.ah x d' y h1 (h3 ▸ hy)
    exact hin y z hz
  · have ha' : md S.ak c.by' (fun a => { a with lacks := a.lacks - 1 }) b = some a := ha
    unfold md at ha'
    split at ha'
    · rename_i e
      cases hx : S.ak c.by' with
      | none => rw [hx] at ha'; cases ha'
      | some x =>
        rw [hx] at ha'
        injection ha' with ha'
        subst ha'
        have := h.lk _ _ hx
        show (m : Int) - _ ≤ x.lacks - 1 ∧ x.lacks - 1 ≤ _
        omega
    · have := h.lk _ _ ha'
      omega
end Go.Proofs.Yteenbebpdibbcaa
