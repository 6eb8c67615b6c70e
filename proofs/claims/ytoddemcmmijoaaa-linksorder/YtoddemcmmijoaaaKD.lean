/- Several texts as one. -/
import Derived.Test.YtoddemcmmijoaaaCE
import Derived.Test.YtoddemcmmijoaaaKC

/- Record: the document's MayMsg. -/
namespace Go.Proofs.Ytoddemcmmijoaaa
open Go.RowKit
set_option maxRecDepth 100000

/-- A whole variable loaded, where the guard is met. -/
theorem wpList_load_wanted {P : Program} {ops : Array Oper} {rest : List Oper} {o : Oper} {a : Act} {w : World} {Q : Exit → Act → World → Prop} (hw : Region.wanted o (yielded ops a.tmps) = true) (ty : TypeId) (x : Operand) (ho : o.op = .load ty x)
    (g : Nat) (hx : a.eval x = .pointer (some ⟨g, 0, none⟩)) (t : TypeId) (cs : Array Value) (fr : Nat × Nat) (d : TypeDesc) (hg : w.heap[g]? = some (.cells cs t fr))
    (hu : P.underlying ty = some d) (hd : (match d with | .struct _ | .array _ _ => true | _ => false) = true) (hi : (P.info? ty).map (·.size) = some cs.size)
    (h : wpList P ops Q rest (a.put o.dst (.agg cs)) w) : wpList P ops Q (o :: rest) a w := by
  unfold wpList
  rw [if_pos hw]
  exact Or.inl (wp_load_row ty x ho g hx t cs fr d hg hu hd hi h)
/-- What a message of its kind has besides is to be, too. -/
def tailM (m : MsgD) : Bool := if m.kind = 3 then decide (m.list.length ≤ 4096) && m.list.all mayTm else if m.kind = 6 then mayE m.ent else if m.kind = 5 then mayP m.part else true
def refMay (m : MsgD) : Bool := decide (1 ≤ m.kind ∧ m.kind ≤ 6) && decide (m = plainM m) && isRep m.frm && isRep m.to && isCnt m.term && isCnt m.slot && isCnt m.last && isCnt m.commit && tailM m

end Go.Proofs.Ytoddemcmmijoaaa

/- Record: which messages may be, the program's and the document's answer; CheckMsg. -/
namespace Go.Proofs.Ytoddemcmmijoaaa
open Go.RowKit
set_option maxRecDepth 100000

theorem okM_plain {m : MsgD} (h : OkM m) : OkM (plainM m) := by
  obtain ⟨h1, h2, h3⟩ := h
  unfold plainM
  repeat' split
  all_goals first | exact ⟨h1, okTs_nil, fun x hx => by cases hx⟩ | exact ⟨(fun x hx => by cases hx), h2, fun x hx => by cases hx⟩ | exact ⟨(fun x hx => by cases hx), okTs_nil, h3⟩ | exact ⟨(fun x hx => by cases hx), okTs_nil, fun x hx => by cases hx⟩
theorem cnt0 : isCnt 0 = true := by decide
theorem mays_same (m : MsgD) : refMay m = mayMsg m := by
  obtain ⟨k, f, t, a, b, c, d, y, l, e, p⟩ := m
  by_cases h1 : k = 1
  case pos =>
    subst h1
    rw [Bool.eq_iff_iff]
    simp only [refMay, mayMsg, tailM, plainM, fieldsL, runF, fMay, wout, MsgD.mk.injEq, Bool.and_eq_true, decide_eq_true_eq, if_true, if_false, List.isEmpty_cons, Bool.not_false, true_and, and_true, Int.reduceEq, Int.reduceLE, and_self]
    constructor
    · intro h
      simp_all
    · intro h
      simp_all [cnt0]
  by_cases h2 : k = 2
  case pos =>
    subst h2
    rw [Bool.eq_iff_iff]
    simp only [refMay, mayMsg, tailM, plainM, fieldsL, runF, fMay, wout, MsgD.mk.injEq, Bool.and_eq_true, decide_eq_true_eq, if_true, if_false, List.isEmpty_cons, Bool.not_false, true_and, and_true, Int.reduceEq, Int.reduceLE, and_self]
    constructor
    · intro h
      simp_all
    · intro h
      simp_all [cnt0]
  by_cases h3 : k = 3
  case pos =>
    subst h3
    rw [Bool.eq_iff_iff]
    simp only [refMay, mayMsg, tailM, plainM, fieldsL, runF, fMay, wout, MsgD.mk.injEq, Bool.and_eq_true, decide_eq_true_eq, if_true, if_false, List.isEmpty_cons, Bool.not_false, true_and, Int.reduceEq, Int.reduceLE, and_self]
    constructor
    · intro h
      simp_all
    · intro h
      simp_all
  by_cases h4 : k = 4
  case pos =>
    subst h4
    rw [Bool.eq_iff_iff]
    simp only [refMay, mayMsg, tailM, plainM, fieldsL, runF, fMay, wout, MsgD.mk.injEq, Bool.and_eq_true, decide_eq_true_eq, if_true, if_false, List.isEmpty_cons, Bool.not_false, true_and, and_true, Int.reduceEq, Int.reduceLE, and_self]
    constructor
    · intro h
      simp_all
    · intro h
      simp_all [cnt0]
  by_cases h5 : k = 5
  case pos =>
    subst h5
    rw [Bool.eq_iff_iff]
    simp only [refMay, mayMsg, tailM, plainM, fieldsL, runF, fMay, wout, MsgD.mk.injEq, Bool.and_eq_true, decide_eq_true_eq, if_true, if_false, List.isEmpty_cons, Bool.not_false, true_and, and_true, Int.reduceEq, Int.reduceLE, and_self]
    constructor
    · intro h
      simp_all
    · intro h
      simp_all [cnt0]
  by_cases h6 : k = 6
  case pos =>
    subst h6
    rw [Bool.eq_iff_iff]
    simp only [refMay, mayMsg, tailM, plainM, fieldsL, runF, fMay, wout, MsgD.mk.injEq, Bool.and_eq_true, decide_eq_true_eq, if_true, if_false, List.isEmpty_cons, Bool.not_false, true_and, Int.reduceEq, Int.reduceLE, and_self]
    constructor
    · intro h
      simp_all
    · intro h
      simp_all [cnt0]
  case neg =>
    have e1 : refMay ⟨k, f, t, a, b, c, d, y, l, e, p⟩ = false := by
      unfold refMay
      have : decide (1 ≤ k ∧ k ≤ 6) = false := decide_eq_false (by omega)
      simp only [this, Bool.false_and]
    have e2 : fieldsL k = [] := by simp only [fieldsL, h1, h2, h3, h4, h5, h6, if_false]
    rw [e1]
    simp only [mayMsg, e2, List.isEmpty_nil, Bool.not_true, Bool.false_and]


set_option maxHeartbeats 800000 in
theorem checkMsg_any (cs : Array Value) (t : MsgD) (w : World) (hs : SeesM w cs t) (ot : OkM t) :
    Calls Try.prog 16 #[.agg cs] w fun e w' => e = .returned (.int .i64 (if mayMsg t then 0 else 40)) ∧ Below w.heap.size w w' := by
  have hsT := hs
  obtain ⟨aK, aF, aO, aT, aS, aL, aC, aY, la, ll, lc, ek, ef, en, ta, tl, tc, ps, pi, pm, da, dl, dc, rfl, _, _, _⟩ := hs.shape
  have hal : Below w.heap.size w (w.alloc (.cells #[.int .i64 aK, .int .i64 aF, .int .i64 aO, .int .i64 aT, .int .i64 aS, .int .i64 aL, .int .i64 aC, .bool aY, .slice la ll lc, .int .i64 ek, .int .i64 ef, .int .i64 en, .slice ta tl tc, .int .i64 ps, .int .i64 pi, .int .i64 pm, .slice da dl dc] 38)) := (Below.refl _ _).alloc (Nat.le_refl _) _
  have HM := hide (messageMayBe_any _ t _ (hsT.below hal) ot)
  have HAL := hide hal
  have HE := hide (verdict_any (mayMsg t))
  have HW1 : Hid ((w.alloc (.cells #[.int .i64 aK, .int .i64 aF, .int .i64 aO, .int .i64 aT, .int .i64 aS, .int .i64 aL, .int .i64 aC, .bool aY, .slice la ll lc, .int .i64 ek, .int .i64 ef, .int .i64 en, .slice ta tl tc, .int .i64 ps, .int .i64 pi, .int .i64 pm, .slice da dl dc] 38)).heap[w.heap.size]? = some (.cells #[.int .i64 aK, .int .i64 aF, .int .i64 aO, .int .i64 aT, .int .i64 aS, .int .i64 aL, .int .i64 aC, .bool aY, .slice la ll lc, .int .i64 ek, .int .i64 ef, .int .i64 en, .slice ta tl tc, .int .i64 ps, .int .i64 pi, .int .i64 pm, .slice da dl dc] 38)) := heap_alloc_new w _
  obtain ⟨wz, hwz⟩ : ∃ y, (w.alloc (.cells #[.int .i64 aK, .int .i64 aF, .int .i64 aO, .int .i64 aT, .int .i64 aS, .int .i64 aL, .int .i64 aC, .bool aY, .slice la ll lc, .int .i64 ek, .int .i64 ef, .int .i64 en, .slice ta tl tc, .int .i64 ps, .int .i64 pi, .int .i64 pm, .slice da dl dc] 38)) = y := ⟨_, rfl⟩
  rw [hwz] at HM HAL HW1
  clear hal hsT
  generalize mayMsg t = m at *
  have HE2 : Hid (∀ E : Int, (if m = true then (0 : Int) else 40) = E → ∀ w, Calls Try.prog 27 #[.bool m] w fun e w' => e = .returned (.int .i64 E) ∧ w = w') := fun E h w => by rw [← h]; exact unhide HE w
  obtain ⟨E, hE⟩ : ∃ E, (if m = true then (0 : Int) else 40) = E := ⟨_, rfl⟩
  rw [hE]
  have HE3 := hide (unhide HE2 E hE)
  clear HE HE2 hE
  go_enter Try.func16, Try.ntmps16
  go_wp2_with (first | rw [hwz] | refine wpList_load_wanted (by rfl) 38 _ rfl w.heap.size rfl 38 _ (0, 0) _ (unhide HW1) Try.underlying38 rfl (by kernel_rfl) ?_)
  refine (unhide HM).mono ?_
  rintro e w1 ⟨rfl, hb1⟩
  have HB : Hid (Below w.heap.size w w1) := (unhide HAL).trans (hb1.mono (unhide HAL).size)
  clear hb1
  go_wp2_with fail
  refine (unhide HE3 w1).mono ?_
  rintro e w2 ⟨rfl, rfl⟩
  go_wp2_with fail
  go_ret
  exact ⟨rfl, unhide HB⟩

end Go.Proofs.Ytoddemcmmijoaaa
